/-
  Contract of the document's own Removed: what P3.7 says.
-/
import Derived.Test.YtdhaccljidhdcaaRefLib
import Derived.Test.YtdhaccljidhdcaaRemoveWalk
namespace Go.Proofs.Ytdhaccljidhdcaa
open Go.ChangeShapes Go.WideShapes Go.ChangeAt Go.RowKit
attribute [local go_sem ↓] exec_append

theorem skip_lt {fs : List FileL} {k a : Nat} (hk : k < fs.length) (h : k ≠ a) : (fs.take (k + 1)).eraseIdx a = (fs.take k).eraseIdx a ++ [fs.getD k noF] := by
  have hl : (fs.take k).length = k := List.length_take_of_le (by omega)
  rw [take_snocF hk]
  by_cases ha : a < k
  · rw [List.eraseIdx_append_of_lt_length (by omega)]
  · rw [List.eraseIdx_of_length_le (by simp; omega), List.eraseIdx_of_length_le (by omega)]
theorem skip_at {fs : List FileL} {k : Nat} (hk : k < fs.length) : (fs.take (k + 1)).eraseIdx k = (fs.take k).eraseIdx k := by
  have hl : (fs.take k).length = k := List.length_take_of_le (by omega)
  have e2 : (fs.take k).eraseIdx k = fs.take k := List.eraseIdx_of_length_le (by omega)
  rw [e2, take_snocF hk, List.eraseIdx_append_of_length_le (by omega), hl, Nat.sub_self]
  simp
theorem skip_len (fs : List FileL) (k a : Nat) : ((fs.take k).eraseIdx a).length ≤ fs.length := by
  have h1 := List.length_eraseIdx_le (fs.take k) a
  have h2 : (fs.take k).length ≤ fs.length := by rw [List.length_take]; omega
  omega

set_option maxHeartbeats 2000000 in
set_option maxRecDepth 100000 in
theorem removed_any (v : Value) (fs : List FileL) (n : ByteArray) (w : World) (h : DiskR w v fs) (hg : Good fs) (hl : fs.length * 48 ≤ 140737488351232) :
    Calls Try.prog 24 #[.agg #[v], .string n] w fun e w' => ∃ v', e = .returned (.tuple #[.agg #[v'], .int .i64 (chF fs (removeF fs n)).2]) ∧ DiskR w' v' (chF fs (removeF fs n)).1 ∧ Below w.heap.size w w' := by
  have HG : Hid (Good fs) := hg
  have HD : Hid (DiskR w v fs) := h
  obtain ⟨a, cap, rfl, hc, hm, _, _⟩ := h
  clear hg
  unfold maxLen at hm
  go_enter Try.func24, Try.ntmps24
  go_wp2_with fail
  refine (diskMay_any _ fs _ ?_).mono ?_
  · exact (HD.out.below (below_alloc _ _) (Nat.le_refl _)).below (below_alloc _ _) (Nat.le_refl _)
  rintro e w1 ⟨rfl, hb1⟩
  have B0 : Hid (Below (w.heap.size + 2) ((w.alloc (.cells #[.slice a fs.length cap] 24)).alloc (.cells #[.slice none 0 0] 24)) w1) := by simpa [Hid] using hb1
  have r0 := two_cell0 B0.out
  have t1 := two_cell1 B0.out
  have t2 := two_frozen1 B0.out
  have hs1 : w.heap.size + 2 ≤ w1.heap.size := by have := B0.out.size; simp at this; omega
  have B1 : Hid (Below w.heap.size w w1) := below_two B0.out
  have D1 : Hid (DiskR w1 (.slice a fs.length cap) fs) := HD.out.below B1.out (Nat.le_refl _)
  clear hb1
  cases hmay : mayB fs with
  | false =>
    have HF : Hid (chF fs (removeF fs n) = ([], 9)) := by simp [chF, Hid, hmay]
    clear hmay
    go_wp2_with fail
    refine bodyPost_ret (v := .tuple #[.agg #[.slice none 0 0], .int .i64 9]) (by simp [results, Try.results24, go_sem, t1]) rfl ⟨.slice none 0 0, by rw [HF.out], by rw [HF.out]; exact diskR_nil _, B1.out.setCell (show w.heap.size ≤ w.heap.size + 1 by omega) _⟩
  | true =>
    have HFC : Hid (chF fs (removeF fs n) = removeF fs n) := by simp [chF, Hid, hmay]
    have h40 := (may_iff.1 hmay).1
    clear hmay
    go_wp2_with fail
    refine (fileAt_any _ fs n _ D1.out).mono ?_
    rintro e w2 ⟨rfl, hb2⟩
    have B2 : Hid (Below (w.heap.size + 2) ((w.alloc (.cells #[.slice a fs.length cap] 24)).alloc (.cells #[.slice none 0 0] 24)) w2) := B0.out.trans (hb2.mono (by omega))
    have r02 := two_cell0 B2.out
    have t12 := two_cell1 B2.out
    have t22 := two_frozen1 B2.out
    have hs2 : w.heap.size + 2 ≤ w2.heap.size := by have := hb2.size; omega
    clear hb2 r0 t1 t2
    rcases atF_cases fs n with ⟨k, hk, e, _, _⟩ | ⟨e, _⟩
    · have HF : Hid (removeF fs n = (fs.eraseIdx k, 0)) := removeF_some e
      rw [e]
      clear e
      have D2 : Hid (DiskR w2 (.slice a fs.length cap) fs) := HD.out.below (below_two B2.out) (Nat.le_refl _)
      go_wp2_with fail
      refine (diskCopy_any _ fs _ D2.out HG.out hl).mono ?_
      rintro e w3 ⟨v3, vs3, rfl, ho3, hb3⟩
      have B3 : Hid (Below (w.heap.size + 2) ((w.alloc (.cells #[.slice a fs.length cap] 24)).alloc (.cells #[.slice none 0 0] 24)) w3) := B2.out.trans (hb3.mono (by omega))
      have hs3 := hb3.size
      have O3 : Hid (OwnD w3 w2.heap.size v3 fs vs3) := ho3
      clear hb3 ho3
      rcases O3.out.row_or with ⟨_, rfl⟩ | ⟨g, gcap, rfl, hg, hrow⟩
      · simp at hk
      have R3 : Hid (RowF w3 g gcap fs (fun i => vs3.getD i undef)) := hrow
      have hgl := hrow.lt
      have hcl := hrow.le
      have hcm := hrow.max
      unfold maxLen at hcm
      clear hrow
      go_wp2_with fail
      go_loopw [9] (fun i wr => ∃ (m : Nat) (u : Value) (us : List Value), m ≤ fs.length ∧ i = .int .i64 m ∧ RowD wr (w3.heap.size + 2) w2.heap.size u ((fs.take m).eraseIdx k) us ∧ (∀ j, j < us.length → ∀ b, (us.getD j undef).ownBlock = some b → b < w3.heap.size) ∧ wr.cell? ⟨w3.heap.size + 1, 0, none⟩ = some u ∧ wr.frozen? ⟨w3.heap.size + 1, 0, none⟩ = false ∧ w3.heap.size + 2 ≤ wr.heap.size ∧ Below (w3.heap.size + 1) (w3.alloc (.cells #[.slice (some ⟨g, 0, none⟩) fs.length gcap] 24)) wr) (fun i _ => fs.length - (intOf i).toNat)
      case atStart => exact ⟨0, _, [], by omega, rfl, by simpa using RowD.nil _ _ _, fun j hj => by simp at hj, cell_second _ _ _ _, frozen_second _ _ _ _, by simp, (Below.refl _ _).alloc (by simp) _⟩
      case round =>
        obtain ⟨m, u, us, hm, rfl, hrd, hus, hcu, hfu, hsz, hbel⟩ := hrel
        have HRD : Hid (RowD wr (w3.heap.size + 2) w2.heap.size u ((fs.take m).eraseIdx k) us) := hrd
        have HUS : Hid (∀ j, j < us.length → ∀ b, (us.getD j undef).ownBlock = some b → b < w3.heap.size) := hus
        have HB : Hid (Below (w3.heap.size + 1) (w3.alloc (.cells #[.slice (some ⟨g, 0, none⟩) fs.length gcap] 24)) wr) := hbel
        have B4 : Hid (Below w3.heap.size w3 wr) := box_below hbel
        have hcb : wr.cell? ⟨w3.heap.size, 0, none⟩ = some (.slice (some ⟨g, 0, none⟩) fs.length gcap) := box_cell hbel
        obtain ⟨ua, uc, hue⟩ := hrd.shape
        subst hue
        clear hrd hus hbel
        by_cases hlt : m < fs.length
        · by_cases hmk : m = k
          · have HSK : Hid ((fs.take (m + 1)).eraseIdx k = (fs.take m).eraseIdx k) := by subst hmk; exact skip_at hlt
            have hne : ((m : Int) != (k : Int)) = false := by simp [hmk]
            clear hmk
            go_wp2_with fail
            go_roundw
            case rel => exact ⟨m + 1, _, us, by omega, by go_num, by rw [HSK.out]; exact HRD.out, HUS.out, by rw [HSK.out] at *; exact hcu, hfu, hsz, HB.out⟩
            case measure => simp [intOf]; omega
          · have HSK : Hid ((fs.take (m + 1)).eraseIdx k = (fs.take m).eraseIdx k ++ [fs.getD m noF]) := skip_lt hlt hmk
            have hne : ((m : Int) != (k : Int)) = true := by simp; omega
            obtain ⟨c1, c2, c3, _⟩ := (R3.out.file m hlt).below B4.out (Nat.le_refl _)
            have OD : Hid (wr.ownsRow w2.heap.size 5 1 (vs3.getD m undef) (fs.getD m noF).data.length ((fs.getD m noF).data.map (Value.int .u8))) := own_below (O3.out.data m hlt) B4.out (Nat.le_refl _)
            have hbk : ∀ b, (vs3.getD m undef).ownBlock = some b → b < w3.heap.size := O3.out.lt m hlt
            have c2' : wr.cell? ⟨g, m * 3 + 1, none⟩ = some (vs3.getD m undef) := c2
            clear c2 hmk
            generalize vs3.getD m undef = dv at *
            obtain ⟨da, dn, dc, rfl⟩ : ∃ a n c, dv = .slice a n c := by obtain ⟨a, c, h, _⟩ := reads_own OD.out; exact ⟨_, _, _, h⟩
            generalize fs.getD m noF = f at *
            have hll := skip_len fs m k
            obtain ⟨gg, gc, w5, a1, a2, a3, hr5, hb5, hs5⟩ := run_snoc HRD.out f OD.out (by omega) hsz
            have HUL : Hid (us.length = ((fs.take m).eraseIdx k).length) := HRD.out.len
            have R5 : Hid (RowD w5 (w3.heap.size + 2) w2.heap.size (.slice (some ⟨gg, 0, none⟩) (((fs.take m).eraseIdx k).length + 1) gc) ((fs.take (m + 1)).eraseIdx k) (us ++ [.slice da dn dc])) := by show RowD _ _ _ _ _ _; rw [HSK.out]; exact hr5
            have HBK : Hid (∀ b, (Value.slice da dn dc).ownBlock = some b → b < w3.heap.size) := hbk
            have k5 : ∀ X, (wr.alloc X).cell? ⟨w3.heap.size + 1, 0, none⟩ = some (.slice ua ((fs.take m).eraseIdx k).length uc) := fun X => ((below_alloc wr X).cell (p := ⟨w3.heap.size + 1, 0, none⟩) (show w3.heap.size + 1 < wr.heap.size by omega)).trans hcu
            have z1 : w5.cell? ⟨w3.heap.size + 1, 0, none⟩ = some (.slice ua ((fs.take m).eraseIdx k).length uc) := (hb5.cell (p := ⟨w3.heap.size + 1, 0, none⟩) (Nat.lt_succ_self _)).trans hcu
            have z2 : w5.frozen? ⟨w3.heap.size + 1, 0, none⟩ = false := (hb5.frozen (p := ⟨w3.heap.size + 1, 0, none⟩) (Nat.lt_succ_self _)).trans hfu
            have HB5 : Hid (Below (w3.heap.size + 1) (w3.alloc (.cells #[.slice (some ⟨g, 0, none⟩) fs.length gcap] 24)) w5) := HB.out.trans (hb5.mono (by omega))
            clear hr5 hb5 hbk
            generalize ((fs.take m).eraseIdx k).length = ln at *
            have q0 : (0 : Int) ≤ (m : Int) := by omega
            have q1 : (m : Int) < (fs.length : Int) := by omega
            go_wp2_with fail
            go_region
            go_wp2_with fail
            have ND : ∀ j, j < ((fs.take (m + 1)).eraseIdx k).length → ((us ++ [Value.slice da dn dc]).getD j undef).ownBlock = none ∨ ((us ++ [Value.slice da dn dc]).getD j undef).ownBlock ≠ some (w3.heap.size + 1) := fun j hj => by
              right
              intro e9
              have hlt9 : w3.heap.size + 1 < w3.heap.size := by
                by_cases hj2 : j < us.length
                · rw [getD_app_left hj2] at e9; exact HUS.out j hj2 _ e9
                · have ej : j = us.length := by have := R5.out.len; simp at this; omega
                  subst ej
                  rw [getD_app_last] at e9; exact HBK.out _ e9
              omega
            go_roundw
            case rel => exact ⟨m + 1, _, _, by omega, by go_num, R5.out.set (show w3.heap.size + 1 < w3.heap.size + 2 by omega) ND, fun j hj b e9 => by
                by_cases hj2 : j < us.length
                · rw [getD_app_left hj2] at e9; exact HUS.out j hj2 _ e9
                · have ej : j = us.length := by simp at hj; omega
                  subst ej
                  rw [getD_app_last] at e9; exact HBK.out _ e9, World.cell?_setCell_same _ _ _ z1, (World.frozen?_setCell _ _ _ _).trans z2, by rw [size_setCell]; omega, HB5.out.setCell (p := ⟨w3.heap.size + 1, 0, none⟩) (show w3.heap.size + 1 ≤ w3.heap.size + 1 from Nat.le_refl _) _⟩
            case measure => simp [intOf]; omega
        · have HSK : Hid ((fs.take m).eraseIdx k = fs.eraseIdx k) := by show _ = _; rw [List.take_of_length_le (by omega)]
          have B5 : Hid (Below (w.heap.size + 2) ((w.alloc (.cells #[.slice a fs.length cap] 24)).alloc (.cells #[.slice none 0 0] 24)) wr) := B3.out.trans (B4.out.mono (by omega))
          have t15 := two_cell1 B5.out
          have t25 := two_frozen1 B5.out
          have D6 : Hid (∀ y, DiskR (wr.setCell ⟨w.heap.size + 1, 0, none⟩ y) (.slice ua ((fs.take m).eraseIdx k).length uc) (fs.eraseIdx k)) := fun y => by
            have h9 := HRD.out.reads.setBox (y := y) (two_block1 B5.out)
            rw [HSK.out] at h9 ⊢
            exact h9
          generalize ((fs.take m).eraseIdx k).length = ln at *
          go_wp2_with fail
          exact bodyPost_ret (v := .tuple #[.agg #[.slice ua ln uc], .int .i64 0]) (by simp [results, Try.results24, go_sem, t15]) rfl ⟨_, by rw [HFC.out, HF.out], by rw [HFC.out, HF.out]; exact D6.out _, (below_two B5.out).setCell (show w.heap.size ≤ w.heap.size + 1 by omega) _⟩
    · have HF : Hid (removeF fs n = ([], 7)) := removeF_none e
      rw [e]
      clear e
      go_wp2_with fail
      refine bodyPost_ret (v := .tuple #[.agg #[.slice none 0 0], .int .i64 7]) (by simp [results, Try.results24, go_sem, t12]) rfl ⟨.slice none 0 0, by rw [HFC.out, HF.out], by rw [HFC.out, HF.out]; exact diskR_nil _, (below_two B2.out).setCell (show w.heap.size ≤ w.heap.size + 1 by omega) _⟩
end Go.Proofs.Ytdhaccljidhdcaa
