/-
  Contract of the document's own MovesRead (P17.4).
-/
import Derived.Test.YtdeghndcglgfkaaDoorRefMoveOf
import Derived.Test.YtdeghndcglgfkaaDoorPlayRead
namespace Go.Proofs.YtdeghndcglgfkaaDoor
set_option maxRecDepth 100000
open Go.ChangeShapes Go.WideShapes Go.ChangeAt Go.RowKit

theorem ixb_miss (c : UInt8) : ∀ l : List UInt8, c ∉ l → Lib.indexByte l c = -1
  | [], _ => rfl
  | b :: l, h => by
    have hb : (b == c) = false := by rw [beq_eq_false_iff_ne]; intro e; exact h (by simp [e])
    have ih := ixb_miss c l (fun hc => h (by simp [hc]))
    simp only [Lib.indexByte, ih, hb]
    rfl
theorem pcs_pre (R : List UInt8) : ∀ (q : List Mv) (k : Nat), (q.flatMap plW ++ R).length ≤ k → (∀ m ∈ q, plE m = 0) → ∃ k', R.length ≤ k' ∧ pcs k (q.flatMap plW ++ R) = q.map plW ++ pcs k' R
  | [], k, hk, _ => ⟨k, by simpa using hk, by simp⟩
  | m :: r, k, hk, h => by
    have hm := h m (by simp)
    have e : (m :: r).flatMap plW ++ R = plS m ++ [10] ++ (r.flatMap plW ++ R) := by rw [List.flatMap_cons, plW_eq hm]; simp
    rw [e] at hk ⊢
    obtain ⟨k, rfl⟩ : ∃ j, k = j + 1 := ⟨k - 1, by simp at hk; omega⟩
    obtain ⟨k', h1, h2⟩ := pcs_pre R r k (by simp only [List.length_append, List.length_cons, List.length_nil] at hk ⊢; omega) (fun x hx => h x (by simp [hx]))
    refine ⟨k', h1, ?_⟩
    conv => lhs; unfold pcs
    rw [if_neg (by simp), nxt_hit _ _ (plS_no10 hm), List.take_left, List.drop_left, h2, List.map_cons, plW_eq hm]
    rfl
/-- A piece that is no move's line. -/
theorem mvs_bad {L WD rest : List UInt8} {q : List Mv} (hq : ∀ m ∈ q, plE m = 0) (hL : L = q.flatMap plW ++ (WD ++ [10] ++ rest)) (h10 : 10 ∉ WD) (hno : ∀ m : Mv, plE m = 0 → plS m ≠ WD) : ∀ q' : List Mv, (∀ m ∈ q', plE m = 0) → q'.flatMap plW ≠ L := by
  intro q' hq' e
  obtain ⟨k', h1, h2⟩ := pcs_pre (WD ++ [10] ++ rest) q L.length (by rw [hL]; exact Nat.le_refl _) hq
  have h3 := pcs_flat q' L.length (by rw [e]; exact Nat.le_refl _) hq'
  rw [e] at h3
  rw [← hL] at h2
  rw [h2] at h3
  obtain ⟨k'', rfl⟩ : ∃ j, k' = j + 1 := ⟨k' - 1, by simp at h1; omega⟩
  have h4 : WD ++ [10] ∈ q'.map plW := by
    rw [← h3]
    refine List.mem_append_right _ ?_
    unfold pcs
    rw [if_neg (by simp), nxt_hit _ _ h10, List.take_left]
    simp
  obtain ⟨m, hm, hme⟩ := List.mem_map.1 h4
  rw [plW_eq (hq' m hm)] at hme
  exact hno m (hq' m hm) (List.append_cancel_right hme)
/-- A last piece without a line feed. -/
theorem mvs_tail {L R : List UInt8} {q : List Mv} (hq : ∀ m ∈ q, plE m = 0) (hL : L = q.flatMap plW ++ R) (hne : R ≠ []) (h10 : 10 ∉ R) : ∀ q' : List Mv, (∀ m ∈ q', plE m = 0) → q'.flatMap plW ≠ L := by
  intro q' hq' e
  obtain ⟨k', h1, h2⟩ := pcs_pre R q L.length (by rw [hL]; exact Nat.le_refl _) hq
  have h3 := pcs_flat q' L.length (by rw [e]; exact Nat.le_refl _) hq'
  rw [e] at h3
  rw [← hL] at h2
  rw [h2] at h3
  have hR := List.length_pos_iff.2 hne
  obtain ⟨k'', rfl⟩ : ∃ j, k' = j + 1 := ⟨k' - 1, by omega⟩
  have h4 : R ∈ q'.map plW := by
    rw [← h3]
    refine List.mem_append_right _ ?_
    unfold pcs
    rw [if_neg hne]
    have : nxtL R = R.length := by unfold nxtL; rw [ixb_miss 10 R h10, if_pos (by decide)]
    rw [this, List.take_length]
    simp
  obtain ⟨m, hm, hme⟩ := List.mem_map.1 h4
  rw [plW_eq (hq' m hm)] at hme
  exact h10 (by rw [← hme]; simp)
theorem mvP_kind {l : List UInt8} {r : Mv} (h : MvP l r) : (r.1 = 0 ∧ r = (0, 0, 0) ∧ ∀ m : Mv, plE m = 0 → plS m ≠ l) ∨ (r.1 ≠ 0 ∧ plE r = 0 ∧ plS r = l) := by
  rcases h with ⟨h1, h2⟩ | ⟨rfl, h⟩
  · obtain ⟨f, _, hm, hk, _⟩ := plE_ok h1
    have := (forms_all f hm).2.2.2.2.2.2
    exact .inr ⟨by rw [← hk]; exact this, h1, h2⟩
  · exact .inl ⟨rfl, rfl, h⟩
theorem cut_line {L : List UInt8} {fr p : Nat} (hf : fr ≤ p) (hp : L[p]? = some 10) : L.drop fr = (L.drop fr).take (p - fr) ++ [10] ++ L.drop (p + 1) := by
  have hlt : p < L.length := (List.getElem?_eq_some_iff.1 hp).1
  have e1 : (L.drop fr).drop (p - fr) = L.drop p := by rw [List.drop_drop]; congr 1; omega
  have e2 : L.drop p = 10 :: L.drop (p + 1) := by
    rw [List.drop_eq_getElem_cons hlt]
    congr 1
    rw [List.getElem?_eq_getElem hlt] at hp
    exact Option.some.inj hp
  rw [List.append_assoc, List.singleton_append, ← e2, ← e1, List.take_append_drop]
theorem take_more10 {L : List UInt8} {fr i : Nat} {b : UInt8} (hf : fr ≤ i) (hi : L[i]? = some b) (hb : b ≠ 10) (hno : 10 ∉ (L.drop fr).take (i - fr)) : 10 ∉ (L.drop fr).take (i + 1 - fr) := by
  have e : (L.drop fr)[i - fr]? = some b := by rw [List.getElem?_drop, show fr + (i - fr) = i by omega]; exact hi
  rw [show i + 1 - fr = i - fr + 1 by omega, List.take_add_one, e]
  simp only [Option.toList_some, List.mem_append, List.mem_singleton, not_or]
  exact ⟨hno, fun h => hb h.symm⟩

set_option maxHeartbeats 8000000 in
theorem movesRead_any (s : ByteArray) (w : World) : Calls Tryd.prog 12 #[.string s] w (RdP w s.data.toList) := by
  have HL : Hid (s.data.toList.length = s.size) := Array.length_toList
  obtain ⟨L, hL⟩ : ∃ L, L = s.data.toList := ⟨_, rfl⟩
  have HAT : Hid (∀ p (h : p < s.size), L[p]? = some (s[p]'h)) := fun p h => by rw [hL]; exact str_atB s p h
  have HEX : Hid (∀ a b, s.extract a b = ⟨((L.drop a).take (b - a)).toArray⟩) := fun a b => by rw [hL]; exact ext_mid s a b
  rw [← hL] at HL ⊢
  clear hL
  by_cases hbig : 5000000 < s.size
  · have HS : Hid (RdS L [] 1) := .inl ⟨by have := HL.out; omega, rfl, rfl⟩
    have h1 : (5000000 : Int) < (s.size : Int) := by omega
    go_enter Tryd.func12, Tryd.ntmps12
    go_wp2_with fail
    go_ret2
    exact ⟨_, [], 1, rfl, HS.out, World.ownsRow_nil _ _ _ _, Below.refl _ _⟩
  have h1 : ¬ (5000000 : Int) < (s.size : Int) := by omega
  have HMO : Hid (∀ x : List UInt8, x.length ≤ 5000000 → ∀ X, Calls Tryd.prog 20 #[.string ⟨x.toArray⟩] X fun e w' => ∃ r : Mv, e = .returned (.agg #[.int .i64 r.1, .int .i64 r.2.1, .int .i64 r.2.2]) ∧ MvP x r ∧ Below X.heap.size X w') := fun x hx X => moveOf_any ⟨x.toArray⟩ (by rw [bytes_size]; exact hx) X
  have HSM : Hid (L.length ≤ 5000000) := by have := HL.out; show _ ≤ _; omega
  go_enter Tryd.func12, Tryd.ntmps12
  go_wp2_with fail
  go_loopw [4, 5, 6] (fun u f i wr => ∃ (p fr : Nat) (q : List Mv), p ≤ s.size ∧ fr ≤ p ∧ q.length ≤ fr ∧ i = .int .i64 (p : Int) ∧ f = .int .i64 (fr : Int) ∧ wr.ownsRow w.heap.size 34 3 u q.length (q.flatMap encE) ∧ Below w.heap.size w wr ∧ 10 ∉ (L.drop fr).take (p - fr) ∧ (∀ m ∈ q, plE m = 0) ∧ q.flatMap plW = L.take fr) (fun _ _ i _ => s.size - (intOf i).toNat)
  case atStart => exact ⟨0, 0, [], by omega, by omega, by simp, rfl, rfl, World.ownsRow_nil _ _ _ _, Below.refl _ _, by simp, by simp, by simp⟩
  case round =>
    obtain ⟨p, fr, q, hp, hfr, hql, rfl, rfl, hown, hbel, hno, hok, hq⟩ := hrel
    have OW : Hid (wr.ownsRow w.heap.size 34 3 u4 q.length (q.flatMap encE)) := hown
    have HB : Hid (Below w.heap.size w wr) := hbel
    have hsr := hbel.size
    have HNO : Hid (10 ∉ (L.drop fr).take (p - fr)) := hno
    have HOK : Hid (∀ m ∈ q, plE m = 0) := hok
    have HQ : Hid (q.flatMap plW = L.take fr) := hq
    obtain ⟨ua, uc, rfl⟩ := (RowK.own encE_len hown).shape
    clear hown hbel hno hok hq
    by_cases hlt : p < s.size
    · have q5 : (p : Int) < (s.size : Int) := by omega
      obtain ⟨b, hb⟩ : ∃ b : UInt8, s[p]'hlt = b := ⟨_, rfl⟩
      have XB : Hid (L[p]? = some b) := by show _ = _; rw [HAT.out p hlt, hb]
      by_cases h10 : b = 10
      · have q6 : ((b.toNat : Int) != 10) = false := by rw [h10]; rfl
        have q3 : (0 : Int) ≤ (fr : Int) := by omega
        have q4 : (fr : Int) ≤ (p : Int) := by omega
        have q7 : (p : Int) ≤ (s.size : Int) := by omega
        have hex := HEX.out fr p
        have HCL := Lib.hid (cut_line hfr (by rw [XB.out, h10]))
        have HWL : Hid (((L.drop fr).take (p - fr)).length ≤ 5000000) := by have := HSM.out; show _ ≤ _; simp; omega
        generalize (L.drop fr).take (p - fr) = WD at hex HNO HCL HWL
        have HMX := Lib.hid (HMO.out WD HWL.out)
        have HLL : Hid (L = q.flatMap plW ++ (WD ++ [10] ++ L.drop (p + 1))) := by show _ = _; rw [HQ.out, ← HCL.out, List.take_append_drop]
        clear HMO
        go_wp2_with fail
        refine (HMX.out _).mono ?_
        rintro e w2 ⟨r, rfl, hmv, hb2⟩
        have HB2 : Hid (Below w.heap.size w w2) := HB.out.trans (hb2.mono hsr)
        have O2 : Hid (w2.ownsRow w.heap.size 34 3 (.slice ua q.length uc) q.length (q.flatMap encE)) := own_below OW.out hb2 (Nat.le_refl _)
        have hs2 := HB2.out.size
        have HMK := mvP_kind hmv
        obtain ⟨rk, ra, rb⟩ := r
        simp only at HMK
        clear hb2 HMX hmv
        rcases HMK with ⟨hk0, _, hnone⟩ | ⟨hk0, hE, hS⟩
        · have HRS : Hid (RdS L [] 3) := .inr ⟨HSM.out, .inr ⟨mvs_bad HOK.out HLL.out HNO.out hnone, rfl, rfl⟩⟩
          have q8 : (rk == 0) = true := by simpa using hk0
          clear hk0 hnone
          go_wp2_with fail
          go_ret2
          exact ⟨_, [], 3, rfl, HRS.out, World.ownsRow_nil _ _ _ _, HB2.out.alloc hs2 _⟩
        · have q8 : (rk == 0) = false := by simpa using hk0
          have HN : Hid ((q ++ [(rk, ra, rb)]).flatMap plW = L.take (p + 1) ∧ ∀ m ∈ q ++ [(rk, ra, rb)], plE m = 0) := by
            refine ⟨?_, fun m hm => ?_⟩
            · have e1 : L.take (p + 1) ++ L.drop (p + 1) = (q.flatMap plW ++ (WD ++ [10])) ++ L.drop (p + 1) := by
                rw [List.take_append_drop, List.append_assoc]
                exact HLL.out
              have e2 := List.append_cancel_right e1
              rw [e2, List.flatMap_append, List.flatMap_cons, List.flatMap_nil, plW_eq hE, hS]
              simp
            · rcases List.mem_append.1 hm with hm | hm
              · exact HOK.out m hm
              · simp at hm; rw [hm]; exact hE
          clear hk0 hE hS
          go_wp2_with (at_builtin; refine wpList_append_newK kMv rfl _ _ rfl w.heap.size _ q rfl ((O2.out.alloc _).alloc _) _ (rk, ra, rb) rfl #[.int .i64 rk, .int .i64 ra, .int .i64 rb] rfl (0, 0) (heap_second _ _ _ _) (by simp [kMv]; omega) (by unfold maxLen; omega) (by simp; omega) ?_)
          intro g c w3 hown3 hb3 _
          have H3 : Hid (w3.ownsRow w.heap.size 34 3 (.slice (some ⟨g, 0, none⟩) (q.length + 1) c) (q ++ [(rk, ra, rb)]).length ((q ++ [(rk, ra, rb)]).flatMap encE) ∧ Below w.heap.size w w3) :=
            ⟨by simpa [kMv] using hown3, ((HB2.out.alloc hs2 _).alloc (by simp; omega) _).trans hb3⟩
          clear hown3 hb3
          go_wp2_with fail
          go_roundw
          case rel => exact ⟨p + 1, p + 1, q ++ [(rk, ra, rb)], by omega, by omega, by simp; omega, by go_num, by go_num, H3.out.1, H3.out.2, by simp, HN.out.2, HN.out.1⟩
          case measure => simp [intOf]; omega
      · have q6 : ((b.toNat : Int) != 10) = true := by
          rw [bne_iff_ne]
          intro h
          exact h10 (UInt8.toNat_inj.1 (by show b.toNat = 10; omega))
        have HN2 : Hid (10 ∉ (L.drop fr).take (p + 1 - fr)) := take_more10 hfr XB.out h10 HNO.out
        go_wp2_with fail
        go_roundw
        case rel => exact ⟨p + 1, fr, q, by omega, by omega, by omega, by go_num, rfl, OW.out, HB.out, HN2.out, HOK.out, HQ.out⟩
        case measure => simp [intOf]; omega
    · have q5 : ¬ (p : Int) < (s.size : Int) := by omega
      by_cases hf : fr < s.size
      · have q6 : (fr : Int) < (s.size : Int) := by omega
        have HRS : Hid (RdS L [] 3) := by
          refine .inr ⟨HSM.out, .inr ⟨mvs_tail (R := L.drop fr) HOK.out (by rw [HQ.out, List.take_append_drop]) ?_ ?_, rfl, rfl⟩⟩
          · intro e
            have := congrArg List.length e
            have := HL.out
            simp at *
            omega
          · have := HNO.out
            rwa [List.take_of_length_le (by have := HL.out; simp; omega)] at this
        go_wp2_with fail
        go_ret2
        exact ⟨_, [], 3, rfl, HRS.out, World.ownsRow_nil _ _ _ _, HB.out⟩
      · have q6 : ¬ (fr : Int) < (s.size : Int) := by omega
        have HQL : Hid (q.flatMap plW = L) := by show _ = _; rw [HQ.out]; exact List.take_of_length_le (by have := HL.out; omega)
        have hq5 : q.length ≤ 5000000 := by omega
        by_cases hm : 100000 < q.length
        · have q8 : (100000 : Int) < (q.length : Int) := by omega
          have HRS : Hid (RdS L [] 1) := .inr ⟨HSM.out, .inl ⟨q, HOK.out, HQL.out, .inl ⟨hm, rfl, rfl⟩⟩⟩
          go_wp2_with fail
          go_ret2
          exact ⟨_, [], 1, rfl, HRS.out, World.ownsRow_nil _ _ _ _, HB.out⟩
        · have q8 : ¬ (100000 : Int) < (q.length : Int) := by omega
          have HRS : Hid (RdS L q 0) := .inr ⟨HSM.out, .inl ⟨q, HOK.out, HQL.out, .inr ⟨by omega, rfl, rfl⟩⟩⟩
          go_wp2_with fail
          go_ret2
          exact ⟨_, q, 0, rfl, HRS.out, OW.out, HB.out⟩
end Go.Proofs.YtdeghndcglgfkaaDoor
