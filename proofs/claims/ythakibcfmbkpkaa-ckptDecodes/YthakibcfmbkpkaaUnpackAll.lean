/-
  Contracts of queue's looseMayBe, unpackAll, count and Count.
-/
import Derived.Test.YthakibcfmbkpkaaRunRead
import Derived.Test.YthakibcfmbkpkaaMailLists
import Derived.Test.YthakibcfmbkpkaaQueueMem
namespace Go.Proofs.Ythakibcfmbkpkaa
set_option maxRecDepth 100000
open Go.ChangeShapes Go.WideShapes Go.ChangeAt Go.RowKit

/-- P9.3, of the budget and what is loose. -/
def looB (n : Int) (lo : List Ml) : Bool := decide (1 ≤ n ∧ n ≤ 1000 ∧ (lo.length : Int) < n) && mayA lo
theorem looB_no {n : Int} {lo : List Ml} (h : ¬ (1 ≤ n ∧ n ≤ 1000 ∧ (lo.length : Int) < n)) : looB n lo = false := by unfold looB; rw [decide_eq_false h]; rfl
theorem looB_yes {n : Int} {lo : List Ml} (h : 1 ≤ n ∧ n ≤ 1000 ∧ (lo.length : Int) < n) : looB n lo = mayA lo := by unfold looB; rw [decide_eq_true h]; rfl
theorem okQ_loo (n : Int) (lo : List Ml) (m : Nat) : okQ n lo m = (looB n lo && decide (m ≤ 5000)) := by
  rw [Bool.eq_iff_iff, okQ_iff, Bool.and_eq_true]
  unfold looB
  rw [Bool.and_eq_true, decide_eq_true_iff, decide_eq_true_iff]
  exact ⟨fun ⟨⟨a, b, c, d⟩, e⟩ => ⟨⟨⟨a, b, c⟩, e⟩, d⟩, fun ⟨⟨⟨a, b, c⟩, e⟩, d⟩ => ⟨⟨a, b, c, d⟩, e⟩⟩

set_option maxHeartbeats 1000000 in
theorem looseMayBe_any (n : Int) (vl vr : Value) (lo : List Ml) (w : World) (h : MlR w vl lo) :
    Calls Try.prog 58 #[.agg #[.int .i64 n, vl, vr]] w fun e w' => e = .returned (.bool (looB n lo)) ∧ Below w.heap.size w w' := by
  have HR : Hid (MlR w vl lo) := h
  obtain ⟨a, cap, rfl, hc, hm, _, _⟩ := h
  unfold maxLen at hm
  have hb : ∀ o, Below w.heap.size w (w.alloc o) := fun o => below_alloc w o
  by_cases h0 : 1 ≤ n
  · by_cases h1 : n ≤ 1000
    · by_cases h2 : (lo.length : Int) < n
      · rw [looB_yes ⟨h0, h1, h2⟩]
        have HA : Hid (∀ X, MlR X (.slice a lo.length cap) lo → Calls Try.prog 61 #[.slice a lo.length cap] X fun e w' => e = .returned (.bool (!mayA lo)) ∧ Below X.heap.size X w') := fun X hX => anyBarred_any _ lo X hX
        have e0 : decide (1 ≤ n) = true := decide_eq_true h0
        have e1 : decide (n ≤ 1000) = true := decide_eq_true h1
        have e2 : decide ((lo.length : Int) < n) = true := decide_eq_true h2
        generalize mayA lo = r at HA ⊢
        clear h0 h1 h2
        go_enter Try.func58, Try.ntmps58
        go_wp2_with fail
        refine (HA.out _ (HR.out.below (hb _) (Nat.le_refl _))).mono ?_
        rintro e w1 ⟨rfl, hb1⟩
        have HB : Hid (Below w.heap.size w w1) := (hb _).trans (hb1.mono (by simp))
        clear hb1
        cases r
        · go_wp2_with fail
          go_ret
          exact ⟨rfl, HB.out⟩
        · go_wp2_with fail
          go_ret
          exact ⟨rfl, HB.out⟩
      · rw [looB_no (by omega)]
        have e2 : decide ((lo.length : Int) < n) = false := decide_eq_false h2
        go_enter Try.func58, Try.ntmps58
        go_wp2_with fail
        go_ret
        exact ⟨rfl, hb _⟩
    · rw [looB_no (by omega)]
      have e1 : decide (n ≤ 1000) = false := decide_eq_false h1
      go_enter Try.func58, Try.ntmps58
      go_wp2_with fail
      go_ret
      exact ⟨rfl, hb _⟩
  · rw [looB_no (by omega)]
    have e1 : decide (1 ≤ n) = false := decide_eq_false h0
    go_enter Try.func58, Try.ntmps58
    go_wp2_with fail
    go_ret
    exact ⟨rfl, hb _⟩

/-- What unpackAll answers. -/
def UnpP (w : World) (o : Option (List (List Ml))) (e : Ending) (w' : World) : Prop := ∃ v', e = .returned (.tuple #[v', .int .i64 (errQ o)]) ∧ OwnLm w' w.heap.size v' (o.getD []) ∧ Below w.heap.size w w'

set_option maxHeartbeats 2000000 in
set_option maxRecDepth 100000 in
theorem unpackAll_any (n : Int) (vl vr : Value) (lo : List Ml) (rs : List (List Int)) (w : World) (h : QuR w vl vr lo rs) (hB : QuB lo rs) :
    Calls Try.prog 54 #[.agg #[.int .i64 n, vl, vr]] w (UnpP w (quF n lo rs)) := by
  have HR : Hid (MlR w vl lo) := h.1
  have HS : Hid (BsR w vr rs) := h.2
  have HBY : Hid (∀ b ∈ rs, ∀ x ∈ b, 0 ≤ x ∧ x ≤ 255) := fun b hb => (hB.2.1 b hb).1
  obtain ⟨a, cap, rfl⟩ := h.1.shape
  obtain ⟨c, cap2, rfl, hc2, hm2, _⟩ := id h.2
  have hlr : rs.length * 24 ≤ 140737488351232 := hB.2.2
  unfold maxLen at hm2
  clear h hB
  have HLo : Hid (∀ X, MlR X (.slice a lo.length cap) lo → Calls Try.prog 58 #[.agg #[.int .i64 n, .slice a lo.length cap, .slice c rs.length cap2]] X fun e w' => e = .returned (.bool (looB n lo)) ∧ Below X.heap.size X w') := fun X hX => looseMayBe_any n _ _ lo X hX
  have HNo : Hid (quF n lo rs = none → ∀ w', Below w.heap.size w w' → UnpP w (quF n lo rs) (.returned (.tuple #[.slice none 0 0, .int .i64 9])) w') := fun e w' hw => by rw [e]; exact ⟨_, rfl, OwnLm.nil _ _, hw⟩
  have HYes : Hid (∀ f, quF n lo rs = some f → ∀ v w', OwnLm w' w.heap.size v f → Below w.heap.size w w' → UnpP w (quF n lo rs) (.returned (.tuple #[v, .int .i64 0])) w') := fun f e v w' ho hw => by rw [e]; exact ⟨_, rfl, ho, hw⟩
  cases hlo : looB n lo
  · have HX : Hid _ := HNo.out (quF_no (by rw [okQ_loo, hlo]; rfl))
    generalize UnpP w (quF n lo rs) = P at *
    rw [hlo] at HLo
    clear HNo HYes hlo
    go_enter Try.func54, Try.ntmps54
    go_wp2_with fail
    refine (HLo.out _ (HR.out.below (below_alloc _ _) (Nat.le_refl _))).mono ?_
    rintro e w1 ⟨rfl, hb1⟩
    have HE : Hid (P (.returned (.tuple #[.slice none 0 0, .int .i64 9])) w1) := HX.out _ ((below_alloc _ _).trans (hb1.mono (by simp)))
    clear hb1 HX
    go_wp2_with fail
    exact HE.out
  · by_cases hrl : rs.length ≤ 5000
    · have hok : okQ n lo rs.length = true := by rw [okQ_loo, hlo]; exact decide_eq_true hrl
      have HQ : Hid (quF n lo rs = unpF (5000 - lo.length) rs) := quF_yes hok
      have hle : lo.length < 1000 := by obtain ⟨⟨_, h2, h3, _⟩, _⟩ := okQ_iff.1 hok; omega
      have HNo2 : Hid (unpF (5000 - lo.length) rs = none → ∀ w', Below w.heap.size w w' → UnpP w (quF n lo rs) (.returned (.tuple #[.slice none 0 0, .int .i64 9])) w') := fun e => HNo.out (HQ.out.trans e)
      have HYes2 : Hid (∀ f, unpF (5000 - lo.length) rs = some f → ∀ v w', OwnLm w' w.heap.size v f → Below w.heap.size w w' → UnpP w (quF n lo rs) (.returned (.tuple #[v, .int .i64 0])) w') := fun f e => HYes.out f (HQ.out.trans e)
      generalize UnpP w (quF n lo rs) = P at *
      rw [hlo] at HLo
      clear HNo HYes hlo HQ hok
      have e5 : ¬ (5000 : Int) < (rs.length : Int) := by omega
      obtain ⟨R0, hR0, hR1⟩ : ∃ R0 : Nat, 5000 - lo.length = R0 ∧ IntKind.i64.wrap (5000 - (lo.length : Int)) = (R0 : Int) := ⟨_, rfl, by rw [IntKind.wrap_i64]; omega⟩
      rw [hR0] at HNo2 HYes2
      have hR2 : R0 ≤ 5000 := by omega
      clear hR0
      go_enter Try.func54, Try.ntmps54
      go_wp2_with fail
      refine (HLo.out _ (HR.out.below (below_alloc _ _) (Nat.le_refl _))).mono ?_
      rintro e w1 ⟨rfl, hb1⟩
      have hb1' : Below (w.heap.size + 1) (w.alloc (.cells #[.int .i64 n, .slice a lo.length cap, .slice c rs.length cap2] 85)) w1 := by simpa using hb1
      have B1 : Hid (Below w.heap.size w w1) := box_below hb1'
      obtain ⟨q0, q1, q2⟩ := ((QX.new w (.int .i64 n) (.slice a lo.length cap) (.slice c rs.length cap2)).below hb1' (Nat.lt_succ_self _)).cells
      clear hb1 hb1' HLo
      go_wp2_with fail
      go_loopw [4, 5, 26] (fun m x i wr => ∃ (k R : Nat) (f : List (List Ml)), k ≤ rs.length ∧ i = .int .i64 k ∧ m = .int .i64 R ∧ UpTo R0 rs k f ∧ R0 ≤ R + sumM f ∧ R + sumM f ≤ R0 ∧ OwnLm wr w.heap.size x f ∧ Below w.heap.size w wr) (fun _ _ i _ => rs.length - (intOf i).toNat)
      case atStart => exact ⟨0, R0, [], by omega, rfl, rfl, UpTo.zero _ _, by simp [sumM], by simp [sumM], OwnLm.nil _ _, B1.out⟩
      case round =>
        obtain ⟨k, R, f, hk, rfl, rfl, hto, hr1, hr2, hown, hbel⟩ := hrel
        have TO : Hid (UpTo R0 rs k f) := hto
        have OW : Hid (OwnLm wr w.heap.size u5 f) := hown
        have HB : Hid (Below w.heap.size w wr) := hbel
        have hsr := hbel.size
        have hfl : f.length ≤ k := Nat.le_of_eq hto.1
        obtain ⟨va, vc, rfl⟩ : ∃ a c, u5 = .slice a f.length c := by obtain ⟨a, c, e, _⟩ := hown.reads; exact ⟨a, c, e⟩
        clear hto hown hbel
        by_cases hlt : k < rs.length
        · obtain ⟨b, off, cap', e1, lt, _, _, hv⟩ := (HS.out.below HB.out (Nat.le_refl _)).at (by omega)
          injection e1 with e1 e2 e3
          subst e1 e3
          clear e2
          obtain ⟨l, hl⟩ := getX hlt
          obtain ⟨u, hu, hpr⟩ := hv k l hl
          have HK : Hid (rs[k]? = some l) := hl
          have HU : Hid (∀ X, Reads .u8 X u l → Calls Try.prog 59 #[u] X (RefP X (errR (runF l)) ((runF l).getD []))) := fun X hX => unpack_any u l X hX (HBY.out l (List.mem_of_getElem? hl))
          have HP : Hid (Reads .u8 wr u l) := hpr
          obtain ⟨ua, uc, rfl, _⟩ := id hpr
          clear hl hv hpr
          cases hrf : runF l with
          | none =>
            have HE : Hid (∀ w', Below w.heap.size w w' → P (.returned (.tuple #[.slice none 0 0, .int .i64 9])) w') := HNo2.out (TO.out.bad HK.out hrf)
            rw [hrf] at HU
            clear hrf
            go_wp2_with fail
            refine (HU.out _ HP.out).mono ?_
            rintro e w2 ⟨v2, rfl, _, hb2⟩
            have HX : Hid (P (.returned (.tuple #[.slice none 0 0, .int .i64 9])) w2) := HE.out _ (HB.out.trans (hb2.mono hsr))
            clear hb2
            unfold errR
            go_wp2_with fail
            exact HX.out
          | some x =>
            rw [hrf] at HU
            by_cases hx : x.length ≤ R
            · have TO2 : Hid (UpTo R0 rs (k + 1) (f ++ [x])) := TO.out.step HK.out hrf (by omega)
              have HS2 : Hid (sumM (f ++ [x]) = sumM f + x.length) := sumM_snoc f x
              have hx2 : ¬ (R : Int) < (x.length : Int) := by omega
              have hsub : IntKind.i64.wrap ((R : Int) - (x.length : Int)) = ((R - x.length : Nat) : Int) := by rw [IntKind.wrap_i64]; omega
              obtain ⟨R2, hR3⟩ : ∃ R2, R - x.length = R2 := ⟨_, rfl⟩
              rw [hR3] at hsub
              have hR4 : R2 + x.length ≤ R := by omega
              have hR5 : R ≤ R2 + x.length := by omega
              clear hrf hR3
              go_wp2_with fail
              refine (HU.out _ HP.out).mono ?_
              rintro e w2 ⟨v2, rfl, ho2, hb2⟩
              have O2 : Hid (w2.ownsRow w.heap.size 45 2 v2 x.length (x.flatMap encM)) := own_lower ho2 hsr
              have OL : Hid (OwnLm w2 w.heap.size (.slice va f.length vc) f) := OW.out.kept (Kept.of (S := fun _ => False) hb2) (fun _ _ h => h)
              have B2 : Hid (Below w.heap.size w w2) := HB.out.trans (hb2.mono hsr)
              have hs2 := B2.out.size
              obtain ⟨xa, xc, rfl⟩ := (MlR.ownd O2.out).shape
              clear ho2 hb2
              unfold errR
              go_wp2_with (at_builtin; refine wpList_append_lm rfl _ _ rfl w.heap.size _ f rfl (OL.out.kept (Kept.of (S := fun _ => False) (below_alloc w2 _)) (fun _ _ h => h)) w2.heap.size (.slice xa x.length xc) x rfl (0, 0) (heap_alloc_new _ _) (O2.out.alloc _) ?d1 ?d2 ?_)
              case d1 => omega
              case d2 => simp; omega
              intro g c3 w3 hown3 hg3 _
              have O3 : Hid (OwnLm w3 w.heap.size (.slice (some ⟨g, 0, none⟩) (f.length + 1) c3) (f ++ [x])) := hown3
              have B3 : Hid (Below w.heap.size w w3) := (B2.out.alloc hs2 _).grown hg3 (by simp; omega) (fun j hj => by
                obtain ⟨vs, hrow⟩ := OL.out.row
                exact (own_geM hrow hj).1)
              clear hown3 hg3
              go_wp2_with fail
              go_roundw
              case rel => exact ⟨k + 1, R2, f ++ [x], by omega, by go_num, rfl, TO2.out, by rw [HS2.out]; omega, by rw [HS2.out]; omega, O3.out, B3.out⟩
              case measure => simp [intOf]; omega
            · have HE : Hid (∀ w', Below w.heap.size w w' → P (.returned (.tuple #[.slice none 0 0, .int .i64 9])) w') := HNo2.out (TO.out.much HK.out hrf (by omega))
              have hx2 : (R : Int) < (x.length : Int) := by omega
              clear hrf
              go_wp2_with fail
              refine (HU.out _ HP.out).mono ?_
              rintro e w2 ⟨v2, rfl, ho2, hb2⟩
              have HX : Hid (P (.returned (.tuple #[.slice none 0 0, .int .i64 9])) w2) := HE.out _ (HB.out.trans (hb2.mono hsr))
              obtain ⟨xa, xc, rfl⟩ := (MlR.ownd (show w2.ownsRow wr.heap.size 45 2 v2 x.length (x.flatMap encM) from ho2)).shape
              clear hb2 ho2
              unfold errR
              go_wp2_with fail
              exact HX.out
        · have HX : Hid (P (.returned (.tuple #[.slice va f.length vc, .int .i64 0])) wr) := HYes2.out f (TO.out.done (by omega)) _ _ OW.out HB.out
          clear TO OW
          go_wp2_with fail
          exact HX.out
    · have HX : Hid _ := HNo.out (quF_no (by rw [okQ_loo, hlo]; exact decide_eq_false hrl))
      generalize UnpP w (quF n lo rs) = P at *
      rw [hlo] at HLo
      clear HNo HYes hlo
      have e5 : (5000 : Int) < (rs.length : Int) := by omega
      go_enter Try.func54, Try.ntmps54
      go_wp2_with fail
      refine (HLo.out _ (HR.out.below (below_alloc _ _) (Nat.le_refl _))).mono ?_
      rintro e w1 ⟨rfl, hb1⟩
      have HE : Hid (P (.returned (.tuple #[.slice none 0 0, .int .i64 9])) w1) := HX.out _ ((below_alloc _ _).trans (hb1.mono (by simp)))
      have hb1' : Below (w.heap.size + 1) (w.alloc (.cells #[.int .i64 n, .slice a lo.length cap, .slice c rs.length cap2] 85)) w1 := by simpa using hb1
      obtain ⟨q0, q1, q2⟩ := ((QX.new w (.int .i64 n) (.slice a lo.length cap) (.slice c rs.length cap2)).below hb1' (Nat.lt_succ_self _)).cells
      clear hb1 hb1' HX
      go_wp2_with fail
      exact HE.out
set_option maxHeartbeats 1000000 in
set_option maxRecDepth 100000 in
theorem countQ_any (v : Value) (f : List (List Ml)) (w : World) (h : LmR w v f) (hs : sumM f ≤ 4611686018427387904) :
    Calls Try.prog 55 #[v] w fun e w' => e = .returned (.int .i64 (sumM f : Nat)) ∧ w' = w := by
  have HR : Hid (LmR w v f) := h
  obtain ⟨a, cap, rfl, hc, hm, _⟩ := h
  unfold maxLen at hm
  go_enter Try.func55, Try.ntmps55
  go_wp2_with fail
  go_loopw [3, 8] (fun s i wr => ∃ k : Nat, k ≤ f.length ∧ i = .int .i64 k ∧ s = .int .i64 (sumM (f.take k) : Nat) ∧ wr = w) (fun _ i _ => f.length - (intOf i).toNat)
  case atStart => exact ⟨0, by omega, rfl, rfl, rfl⟩
  case round =>
    obtain ⟨k, hk, rfl, rfl, rfl⟩ := hrel
    by_cases hlt : k < f.length
    · obtain ⟨b, off, cap', e1, lt, _, _, hv⟩ := HR.out.at (by omega)
      injection e1 with e1 _ e3
      subst e1 e3
      obtain ⟨l, hl⟩ := getX hlt
      obtain ⟨u, hu, hpr⟩ := hv k l hl
      obtain ⟨ua, uc, rfl⟩ := hpr.shape
      have HT : Hid (sumM (f.take (k + 1)) = sumM (f.take k) + l.length) := sumM_take hl
      have hs1 := sumM_le f (k + 1)
      have hs2 := HT.out
      have hs3 : sumM (f.take k) + l.length ≤ 4611686018427387904 := by omega
      clear hs1 hs2 hl hv hpr
      generalize sumM (f.take k) = s at *
      go_wp2_with fail
      go_roundw
      case rel => exact ⟨k + 1, by omega, by go_num, by rw [HT.out]; go_num, trivial⟩
      case measure => simp [intOf]; omega
    · have ek : f.take k = f := List.take_of_length_le (by omega)
      have HT : Hid (sumM (f.take k) = sumM f) := by show _ = _; rw [ek]
      clear ek
      generalize sumM (f.take k) = s at *
      go_wp2_with fail
      go_ret
      exact ⟨by rw [HT.out]; rfl, rfl⟩
end Go.Proofs.Ythakibcfmbkpkaa
