/-
  Contract of pacelinekeep's reported: a board on which the workers have reported.
-/
import Derived.Test.YtpikfiegmnmbmaaTallyMem
import Derived.Test.YtpikfiegmnmbmaaNumsMake
import Derived.Test.YtpikfiegmnmbmaaIntRow
import Derived.Test.YtpikfiegmnmbmaaRowLies
import Derived.Test.YtpikfiegmnmbmaaBoardHear
import Derived.Test.YtpikfiegmnmbmaaQuietBox
namespace Go.Proofs.Ytpikfiegmnmbmaa
set_option maxRecDepth 100000
open Go.ChangeShapes Go.WideShapes Go.ChangeAt Go.RowKit

/-- What reported answers. -/
def RptP (w : World) (W : Nat) (rs : List RpL) (e : Ending) (w' : World) : Prop := ∃ vr, e = .returned (.tuple #[.agg #[.int .i64 (W : Int), .int .i64 2, .int .i64 3, vr], .bool true]) ∧ RpsR w' vr rs ∧ Below w.heap.size w w'
theorem sq_le {W : Nat} (h : W ≤ 5) : W * W ≤ 25 := Nat.mul_le_mul h h

set_option maxHeartbeats 16000000 in
set_option maxRecDepth 100000 in
theorem reported_any (W : Nat) (hW : 1 ≤ W ∧ W ≤ 5) (vl : Value) (l : List TyL) (vo : Value) (o : List Int) (out off : Int) (w : World) (hl : TlsR w vl l) (hB : ∀ t ∈ l, TyB t) (ho : InR w vo o) (hO : ∀ x ∈ o, i64B x) :
    Calls Try.prog 18 #[.int .i64 (W : Int), vl, vo, .int .i64 out, .int .i64 off] w (RptP w W (repsT W l o out off W)) := by
  have HL : Hid (TlsR w vl l) := hl
  have HLB : Hid (∀ t ∈ l, TyB t) := hB
  have HO : Hid (InR w vo o) := ho
  have HOB : Hid (∀ x ∈ o, i64B x) := hO
  have HW : Hid (1 ≤ W ∧ W ≤ 5) := hW
  obtain ⟨la, lc, rfl, hll⟩ := hl.shape
  obtain ⟨oa, oc, rfl, _, hom, _, _⟩ := ho
  have hol : o.length ≤ 9223372036854775807 := by unfold maxLen at hom; omega
  clear hl hB hO hom
  obtain ⟨S, hS⟩ : ∃ S, S = W * W := ⟨_, rfl⟩
  have HS : Hid (S = W * W) := hS
  have hsq : S ≤ 25 := by rw [hS]; exact sq_le hW.2
  have hWW : (W : Int) * (W : Int) = (S : Int) := by rw [hS]; exact (Int.natCast_mul W W).symm
  have hW1 := hW.1
  have hW5 := hW.2
  clear hW
  have HE : Hid (∀ v w', RpsR w' v (repsT W l o out off W) → Below w.heap.size w w' → RptP w W (repsT W l o out off W) (.returned (.tuple #[.agg #[.int .i64 (W : Int), .int .i64 2, .int .i64 3, v], .bool true])) w') := fun v w' h1 h2 => ⟨v, rfl, h1, h2⟩
  generalize RptP w W (repsT W l o out off W) = P at *
  obtain ⟨W0, hW0⟩ : ∃ W0, W0 = w.alloc (.cells #[.int .i64 0, .int .i64 0, .int .i64 0, .slice none 0 0] 24) := ⟨_, rfl⟩
  have M0 : Hid (BX 24 W0 w.heap.size #[.int .i64 0, .int .i64 0, .int .i64 0, .slice none 0 0]) := by show BX _ _ _ _; rw [hW0]; exact BX.new _ _ _
  have B0 : Hid (Below w.heap.size w W0) := by show Below _ _ _; rw [hW0]; exact below_alloc _ _
  have s0 : W0.heap.size = w.heap.size + 1 := by rw [hW0]; simp
  obtain ⟨w1, hmk, ho1, hb1⟩ := make_ints W0 S (by omega)
  rw [s0] at hmk ho1 hb1
  have O1 : Hid (w1.ownsRow (w.heap.size + 1) 3 1 (.slice (some ⟨w.heap.size + 1, 0, none⟩) S S) S ((matF W l (0)).flatMap encI)) := by show World.ownsRow _ _ _ _ _ _ _; rw [matF_zero, ← HS.out]; exact ho1
  clear hS
  have B1 : Hid (Below (w.heap.size + 1) W0 w1) := hb1
  clear ho1 hb1
  go_enter Try.func18, Try.ntmps18
  go_upto_region 1 with fail
  rw [← hW0]
  clear hW0
  go_wp2_with fail
  clear hmk
  go_loopw [13] (fun i wr => ∃ k : Nat, k ≤ W ∧ i = .int .i64 k ∧ wr.ownsRow (w.heap.size + 1) 3 1 (.slice (some ⟨w.heap.size + 1, 0, none⟩) S S) S ((matF W l (k * W)).flatMap encI) ∧ Below (w.heap.size + 1) W0 wr) (fun i _ => W - (intOf i).toNat)
  case atStart => exact ⟨0, by omega, rfl, by rw [Nat.zero_mul]; exact O1.out, B1.out⟩
  case round =>
    obtain ⟨i, hi, rfl, hown, hbel⟩ := hrel
    have OS : Hid (wr.ownsRow (w.heap.size + 1) 3 1 (.slice (some ⟨w.heap.size + 1, 0, none⟩) S S) S ((matF W l (i * W)).flatMap encI)) := hown
    have HB : Hid (Below (w.heap.size + 1) W0 wr) := hbel
    clear hown hbel
    by_cases hlt : i < W
    · go_upto_region 5 with fail
      go_wp2_with fail
      go_loopw [14] (fun j wr => ∃ k : Nat, k ≤ W ∧ j = .int .i64 k ∧ wr.ownsRow (w.heap.size + 1) 3 1 (.slice (some ⟨w.heap.size + 1, 0, none⟩) S S) S ((matF W l (i * W + k)).flatMap encI) ∧ Below (w.heap.size + 1) W0 wr) (fun j _ => W - (intOf j).toNat)
      case atStart => exact ⟨0, by omega, rfl, OS.out, HB.out⟩
      case round =>
        obtain ⟨k, hk, rfl, hown, hbel⟩ := hrel
        have OK : Hid (wr.ownsRow (w.heap.size + 1) 3 1 (.slice (some ⟨w.heap.size + 1, 0, none⟩) S S) S ((matF W l (i * W + k)).flatMap encI)) := hown
        have HBk : Hid (Below (w.heap.size + 1) W0 wr) := hbel
        have hsr := hbel.size
        clear hown hbel
        have HBW : Hid (Below w.heap.size w wr) := B0.out.trans (HBk.out.mono (Nat.le_succ _))
        obtain ⟨p, hp⟩ : ∃ p, p = i * W := ⟨_, rfl⟩
        have HP : Hid (p = i * W) := hp
        have hiw : p + W ≤ S := by have := Nat.mul_le_mul_right W (show i + 1 ≤ W from hlt); rw [Nat.add_mul, ← HS.out, ← hp] at this; omega
        have hpi : (i : Int) * (W : Int) = (p : Int) := by rw [hp]; exact (Int.natCast_mul i W).symm
        rw [← hp] at OK
        clear hp
        by_cases c1 : k < W
        case neg =>
          have ek : k = W := by omega
          have OK2 : Hid (wr.ownsRow (w.heap.size + 1) 3 1 (.slice (some ⟨w.heap.size + 1, 0, none⟩) S S) S ((matF W l ((i + 1) * W)).flatMap encI)) := by
            show World.ownsRow _ _ _ _ _ _ _
            have := OK.out
            rwa [ek, HP.out, show i * W + W = (i + 1) * W by rw [Nat.add_mul, Nat.one_mul]] at this
          clear ek
          go_wp2_with fail
          go_roundw
          case rel => exact ⟨i + 1, by omega, by go_num, OK2.out, HBk.out⟩
          case measure => simp [intOf]; omega
        by_cases c2 : i < l.length
        case neg =>
          have OK2 : Hid (wr.ownsRow (w.heap.size + 1) 3 1 (.slice (some ⟨w.heap.size + 1, 0, none⟩) S S) S ((matF W l ((i + 1) * W)).flatMap encI)) := by
            show World.ownsRow _ _ _ _ _ _ _
            have := OK.out
            rwa [HP.out, matF_skip (by omega) (fun k' _ _ => sentAt_none (by omega))] at this
          go_wp2_with fail
          go_roundw
          case rel => exact ⟨i + 1, by omega, by go_num, OK2.out, HBk.out⟩
          case measure => simp [intOf]; omega
        obtain ⟨lb, loff, lcap, e1, hv⟩ := (HL.out.below HBW.out (Nat.le_refl _)).at (by omega)
        injection e1 with e1 _ e3
        subst e1 e3
        obtain ⟨t, ht⟩ := getX c2
        obtain ⟨sa, sc, ⟨d0, d1, d2⟩, hin⟩ := hv i t ht
        have HT : Hid (l[i]? = some t) := ht
        clear hv ht
        by_cases c3 : k < t.sent.length
        case neg =>
          have OK2 : Hid (wr.ownsRow (w.heap.size + 1) 3 1 (.slice (some ⟨w.heap.size + 1, 0, none⟩) S S) S ((matF W l ((i + 1) * W)).flatMap encI)) := by
            show World.ownsRow _ _ _ _ _ _ _
            have := OK.out
            rwa [HP.out, matF_skip (by omega) (fun k' _ _ => sentAt_out HT.out (by omega))] at this
          go_wp2_with fail
          go_roundw
          case rel => exact ⟨i + 1, by omega, by go_num, OK2.out, HBk.out⟩
          case measure => simp [intOf]; omega
        obtain ⟨sb, soff, scap, e1, _, _, _, hvs⟩ := InR.at hin (by omega)
        injection e1 with e1 _ e3
        subst e1 e3
        obtain ⟨x, hx⟩ := getX c3
        have d3 := hvs k x hx
        have hxb := (HLB.out t (List.mem_of_getElem? HT.out)).1 x (List.mem_of_getElem? hx)
        have CP : Hid (∀ X, Calls Try.prog 17 #[.int .i64 x, .int .i64 5] X fun e w' => e = .returned (.int .i64 (sentAt l i k)) ∧ w' = X) := fun X => by
          rw [sentAt_yes HT.out hx]
          exact picked_any x 5 X hxb.1 hxb.2 (by decide) (by decide)
        have OK3 : Hid ((wr.setCell ⟨w.heap.size + 1, p + k, none⟩ (.int .i64 (sentAt l i k))).ownsRow (w.heap.size + 1) 3 1 (.slice (some ⟨w.heap.size + 1, 0, none⟩) S S) S ((matF W l (i * W + (k + 1))).flatMap encI)) := by
          show World.ownsRow _ _ _ _ _ _ _
          rw [← Nat.add_assoc, ← matF_set hlt c1, ← HP.out]
          exact own_setN OK.out
        have BK3 : Hid (Below (w.heap.size + 1) W0 (wr.setCell ⟨w.heap.size + 1, p + k, none⟩ (.int .i64 (sentAt l i k)))) := HBk.out.setCell (Nat.le_refl _) _
        have hpos : p + k < S := by omega
        obtain ⟨y, hy⟩ := getX (show p + k < (matF W l (p + k)).length by rw [matF_len, ← HS.out]; exact hpos)
        have d4 := own_atN OK.out hy
        have d5 := frozenK OK.out (p + k)
        clear hy hvs hx hin hxb
        generalize sentAt l i k = sv at *
        go_wp2_with fail
        refine (CP.out _).mono ?_
        rintro e w4 ⟨rfl, e4⟩
        have e4' : wr = w4 := e4.symm
        subst e4'
        clear e4
        go_wp2_with fail
        go_roundw
        case rel => exact ⟨k + 1, by omega, by go_num, OK3.out, BK3.out⟩
        case measure => simp [intOf]; omega
    · have ei : i = W := by omega
      have OSW : Hid (wr.ownsRow (w.heap.size + 1) 3 1 (.slice (some ⟨w.heap.size + 1, 0, none⟩) S S) S ((matF W l (S)).flatMap encI)) := by show World.ownsRow _ _ _ _ _ _ _; have := OS.out; rwa [ei, ← HS.out] at this
      clear ei OS
      have HBW : Hid (Below w.heap.size w wr) := B0.out.trans (HB.out.mono (Nat.le_succ _))
      have COp : Hid (∀ X, Calls Try.prog 9 #[.int .i64 (W : Int), .int .i64 2, .int .i64 3] X fun e w' => e = .returned (.tuple #[.agg #[.int .i64 (W : Int), .int .i64 2, .int .i64 3, .slice none 0 0], .int .i64 0]) ∧ Below X.heap.size X w') := fun X => (bOpen_any W 2 3 X).mono fun e w' h => by
        have h0 : opE (W : Int) 2 3 = 0 := opE_yes ⟨⟨by omega, by omega⟩, by decide, by omega, by omega⟩
        refine ⟨?_, h.2⟩
        rw [h.1, h0]
        rfl
      have tw : ((W : Int) != (W : Int)) = false := by simp
      go_wp2_with fail
      refine (COp.out _).mono ?_
      rintro e w2 ⟨rfl, hb2⟩
      have hsb := HB.out.size
      have E2 : Hid (Below (w.heap.size + 1) W0 (w2.alloc (.cells #[.int .i64 (W : Int), .int .i64 2, .int .i64 3, .slice none 0 0] 24)) ∧ BX 24 (w2.alloc (.cells #[.int .i64 (W : Int), .int .i64 2, .int .i64 3, .slice none 0 0] 24)) w2.heap.size #[.int .i64 (W : Int), .int .i64 2, .int .i64 3, .slice none 0 0] ∧ (w2.alloc (.cells #[.int .i64 (W : Int), .int .i64 2, .int .i64 3, .slice none 0 0] 24)).ownsRow (w.heap.size + 1) 3 1 (.slice (some ⟨w.heap.size + 1, 0, none⟩) S S) S ((matF W l (S)).flatMap encI) ∧ w.heap.size + 1 < w2.heap.size) := by
        have hbA := hb2.alloc hb2.size (.cells #[.int .i64 (W : Int), .int .i64 2, .int .i64 3, .slice none 0 0] 24)
        have hq : w.heap.size + 1 < wr.heap.size := (own_ge OSW.out rfl).2
        exact ⟨HB.out.trans (hbA.mono (by omega)), BX.new _ _ _, own_below OSW.out hbA (Nat.le_refl _), by have := hb2.size; omega⟩
      clear hb2 OSW HB HBW COp
      go_upto_region 10 with fail
      generalize w2.alloc (.cells #[.int .i64 (W : Int), .int .i64 2, .int .i64 3, .slice none 0 0] 24) = V0 at *
      generalize w2.heap.size = qb at *
      obtain ⟨bV, xV, oV, lV⟩ := E2.out
      have BV : Hid (Below (w.heap.size + 1) W0 V0) := bV
      have XV : Hid (BX 24 V0 qb #[.int .i64 (W : Int), .int .i64 2, .int .i64 3, .slice none 0 0]) := xV
      have OV : Hid (V0.ownsRow (w.heap.size + 1) 3 1 (.slice (some ⟨w.heap.size + 1, 0, none⟩) S S) S ((matF W l (S)).flatMap encI)) := oV
      have hsv := bV.size
      obtain ⟨b0, b1, b2, b3⟩ := xV.all4
      clear bV xV oV E2
      go_wp2_with fail
      clear b0 b1 b2 b3 tw
      go_loopw [17, 18] (fun z i wr => ∃ (k : Nat) (u : Value), u = z ∧ k ≤ W ∧ i = .int .i64 k ∧ wr.ownsRow V0.heap.size 3 1 u (turnT o k).length ((turnT o k).flatMap encI) ∧ Below V0.heap.size V0 wr) (fun _ i _ => W - (intOf i).toNat)
      case atStart => exact ⟨0, _, rfl, by omega, rfl, World.ownsRow_nil _ _ _ _, Below.refl _ _⟩
      case round =>
        obtain ⟨k, u, rfl, hk, rfl, hown, hbel⟩ := hrel
        have OW : Hid (wr.ownsRow V0.heap.size 3 1 u (turnT o k).length ((turnT o k).flatMap encI)) := hown
        have HB2 : Hid (Below V0.heap.size V0 wr) := hbel
        have hsr2 := hbel.size
        clear hown hbel
        have HBW : Hid (Below w.heap.size w wr) := B0.out.trans ((BV.out.trans (HB2.out.mono (by omega))).mono (Nat.le_succ _))
        by_cases hlt : k < W
        · have HF : Hid ((turnT o k).length = k) := turnT_len o k
          have HTN : Hid (turnT o (k + 1) = (turnT o k).take (atO o k) ++ (k : Int) :: (turnT o k).drop (atO o k)) := rfl
          obtain ⟨p, hp⟩ : ∃ p, atO o k = p := ⟨_, rfl⟩
          have hpk : p ≤ k := by rw [← hp]; exact atO_le o k
          have HPO : Hid (atO o k = p) := hp
          rw [hp] at HTN
          clear hp
          generalize turnT o k = f at *
          have hfl : f.length ≤ k := by rw [HF.out]; omega
          by_cases hlo : k < o.length
          · obtain ⟨ob, ooff, ocap, e1, _, _, _, hvo⟩ := InR.at (HO.out.below HBW.out (Nat.le_refl _)) (by omega)
            injection e1 with e1 _ e3
            subst e1 e3
            obtain ⟨x, hx⟩ := getX hlo
            have d0 := hvo k x hx
            have hxb := HOB.out x (List.mem_of_getElem? hx)
            have CP : Hid (∀ X, Calls Try.prog 17 #[.int .i64 x, .int .i64 ((k : Int) + 1)] X fun e w' => e = .returned (.int .i64 (p : Int)) ∧ w' = X) := fun X => by
              rw [← HPO.out, ← atO_some hx]
              exact picked_any x ((k : Int) + 1) X hxb.1 hxb.2 (by omega) (by omega)
            clear hvo hx hxb
            go_wp2_with fail
            refine (CP.out _).mono ?_
            rintro e w9 ⟨rfl, e9⟩
            have e9' : wr = w9 := e9.symm
            subst e9'
            clear e9 d0
            go_wp2_with (at_builtin; refine wpList_append_newK kI rfl _ _ rfl V0.heap.size u f rfl (OW.out.alloc _) _ 0 rfl #[.int .i64 0] rfl (0, 0) (heap_alloc_new _ _) (by simp [kI]; omega) (by unfold maxLen; omega) (by simp; omega) ?_)
            intro g c w3 hown3 hb3 hg3
            have B3 : Hid (Below V0.heap.size V0 w3) := (HB2.out.alloc hsr2 _).trans hb3
            have O3 : Hid (w3.ownsRow V0.heap.size 3 1 (.slice (some ⟨g, 0, none⟩) (k + 1) c) (k + 1) ((f ++ [0]).flatMap encI)) := by
              show World.ownsRow _ _ _ _ _ _ _
              rw [flat_snoc]
              have := hown3
              rw [HF.out] at this
              exact this
            rw [HF.out]
            have hkc : k + 1 ≤ c := by rcases O3.out.2 with ⟨hv, _⟩ | ⟨_, _, _, hv, _, _, h9, _⟩; cases hv; injection hv with _ _ h8; omega
            clear hown3 hb3 hg3
            go_upto_region 20 with fail
            have q5 : ¬ c = p := by omega
            have q7 : (0 : Int) ≤ (p : Int) := by omega
            have q6 : (p : Int) ≤ (k : Int) + 1 := by omega
            have q3 : ((p : Int) + 1) ≤ (k : Int) + 1 := by omega
            have q2 : (0 : Int) ≤ ((p : Int) + 1) := by omega
            have q1 : IntKind.i64.wrap ((p : Int) + 1) = (p : Int) + 1 := by rw [IntKind.wrap_i64]; omega
            have hgB : V0.heap.size ≤ g := (own_ge O3.out rfl).1
            refine wp_region_held (S := fun _ => True) (by kernel_rfl) ?_
            simp only [List.size_toArray, List.length_cons, List.length_nil, Nat.reduceAdd]
            refine takeH (i := 0) (v := .slice (some ⟨g, 0, none⟩) (k + 1) c) (d := 106) rfl rfl (by kernel_rfl) (by kernel_rfl) (by kernel_rfl) (fun _ _ _ h => h) (by rfl) (fun V hV => by go_simp) trivial ?_
            simp only [Act.put, List.setIfInBounds_toArray, List.set_cons_zero, List.set_cons_succ]
            refine takeH (i := 1) (v := .int .i64 (p : Int)) (d := 107) rfl rfl (by kernel_rfl) (by kernel_rfl) (by kernel_rfl) (fun _ _ _ h => h) (by rfl) (fun V hV => by go_simp) trivial ?_
            simp only [Act.put, List.setIfInBounds_toArray, List.set_cons_zero, List.set_cons_succ]
            refine takeH (i := 2) (v := .int .i64 ((p : Int) + 1)) (d := 108) rfl rfl (by kernel_rfl) (by kernel_rfl) (by kernel_rfl) (fun _ _ _ h => h) (by rfl) (fun V hV => by go_simp) trivial ?_
            simp only [Act.put, List.setIfInBounds_toArray, List.set_cons_zero, List.set_cons_succ]
            by_cases hpc : p + 1 < c
            · have q4 : ¬ c = p + 1 := by omega
              refine takeH (i := 3) (v := .slice (some ⟨g, p + 1, none⟩) (k - p) (c - (p + 1))) (d := 109) rfl rfl (by kernel_rfl) (by kernel_rfl) (by kernel_rfl) (fun _ _ _ h => h) (by rfl) (fun V hV => by go_simp) trivial ?_
              simp only [Act.put, List.setIfInBounds_toArray, List.set_cons_zero, List.set_cons_succ]
              refine takeH (i := 4) (v := .slice (some ⟨g, 0, none⟩) (k + 1) c) (d := 110) rfl rfl (by kernel_rfl) (by kernel_rfl) (by kernel_rfl) (fun _ _ _ h => h) (by rfl) (fun V hV => by go_simp) trivial ?_
              simp only [Act.put, List.setIfInBounds_toArray, List.set_cons_zero, List.set_cons_succ]
              refine takeH (i := 5) (v := .int .i64 (p : Int)) (d := 111) rfl rfl (by kernel_rfl) (by kernel_rfl) (by kernel_rfl) (fun _ _ _ h => h) (by rfl) (fun V hV => by go_simp) trivial ?_
              simp only [Act.put, List.setIfInBounds_toArray, List.set_cons_zero, List.set_cons_succ]
              refine takeH (i := 6) (v := .slice (some ⟨g, p, none⟩) (k + 1 - p) (c - p)) (d := 112) rfl rfl (by kernel_rfl) (by kernel_rfl) (by kernel_rfl) (fun _ _ _ h => h) (by rfl) (fun V hV => by go_simp) trivial ?_
              simp only [Act.put, List.setIfInBounds_toArray, List.set_cons_zero, List.set_cons_succ]
              obtain ⟨w4, hrun, ho4, hk4⟩ := copy_shift (w := w3.drew) (p := p) (d := (c - (p + 1))) (s := c - p) (o := p + 1) 3 O3.out.drew (by rw [List.length_append, List.length_singleton, HF.out]) (by omega) (.inl rfl)
              rw [show k + 1 - (p + 1) = k - p by omega] at hrun
              refine oneH (i := 7) rfl (by kernel_rfl) rfl (op_run (d := 113) (v' := goInt (((k - p) : Nat) : Int)) (w' := w4) rfl (by go_simp) ⟨trivial, ?_⟩)
              simp only [Act.put, List.setIfInBounds_toArray, List.set_cons_zero, List.set_cons_succ]
              refine wpAnyH_done (by kernel_rfl) ?_ _
              have B4 : Hid (Below V0.heap.size V0 w4) := B3.out.trans ((Kept.refl (fun q => q = g) w3).drew.trans hk4 |>.below B3.out.size (fun q hq => by rw [hq]; exact hgB))
              have O4 : Hid (w4.ownsRow V0.heap.size 3 1 (.slice (some ⟨g, 0, none⟩) (k + 1) c) (k + 1) (((f ++ [0]).take (p + 1) ++ ((f ++ [0]).drop p).take (k - p)).flatMap encI)) := by
                show World.ownsRow _ _ _ _ _ _ _
                rw [show k - p = k + 1 - (p + 1) by omega]
                exact ho4
              have O5 : Hid ((w4.setCell ⟨g, p, none⟩ (.int .i64 (k : Int))).ownsRow V0.heap.size 3 1 (.slice (some ⟨g, 0, none⟩) (k + 1) c) (turnT o (k + 1)).length ((turnT o (k + 1)).flatMap encI)) := by
                show World.ownsRow _ _ _ _ _ _ _
                have h1 := own_setN (j := p) (x := (k : Int)) O4.out
                rw [shift_set HF.out (by omega), ← HTN.out] at h1
                rw [turnT_len]
                exact h1
              have B5 : Hid (Below V0.heap.size V0 (w4.setCell ⟨g, p, none⟩ (.int .i64 (k : Int)))) := B4.out.setCell (p := ⟨g, p, none⟩) hgB _
              obtain ⟨y, hy⟩ := getX (show p < ((f ++ [0]).take (p + 1) ++ ((f ++ [0]).drop p).take (k - p)).length by rw [List.length_append, List.length_take, List.length_append, HF.out]; simp; try omega)
              have d4 := own_atN O4.out hy
              have d5 := frozenK O4.out p
              clear hy ho4 hk4 hrun q5 q6 q7 q2 q3 q1
              go_wp2_with fail
              go_roundw
              case rel => exact ⟨k + 1, _, rfl, by omega, by go_num, O5.out, B5.out⟩
              case measure => simp [intOf]; omega
            · have HC : Hid (c = p + 1) := by show c = _; omega
              refine takeH (i := 3) (v := .slice (some ⟨g, 0, none⟩) (k - p) (c - (p + 1))) (d := 109) rfl rfl (by kernel_rfl) (by kernel_rfl) (by kernel_rfl) (fun _ _ _ h => h) (by rfl) (fun V hV => by have q4 : c = p + 1 := HC.out; go_simp) trivial ?_
              simp only [Act.put, List.setIfInBounds_toArray, List.set_cons_zero, List.set_cons_succ]
              refine takeH (i := 4) (v := .slice (some ⟨g, 0, none⟩) (k + 1) c) (d := 110) rfl rfl (by kernel_rfl) (by kernel_rfl) (by kernel_rfl) (fun _ _ _ h => h) (by rfl) (fun V hV => by go_simp) trivial ?_
              simp only [Act.put, List.setIfInBounds_toArray, List.set_cons_zero, List.set_cons_succ]
              refine takeH (i := 5) (v := .int .i64 (p : Int)) (d := 111) rfl rfl (by kernel_rfl) (by kernel_rfl) (by kernel_rfl) (fun _ _ _ h => h) (by rfl) (fun V hV => by go_simp) trivial ?_
              simp only [Act.put, List.setIfInBounds_toArray, List.set_cons_zero, List.set_cons_succ]
              refine takeH (i := 6) (v := .slice (some ⟨g, p, none⟩) (k + 1 - p) (c - p)) (d := 112) rfl rfl (by kernel_rfl) (by kernel_rfl) (by kernel_rfl) (fun _ _ _ h => h) (by rfl) (fun V hV => by go_simp) trivial ?_
              simp only [Act.put, List.setIfInBounds_toArray, List.set_cons_zero, List.set_cons_succ]
              obtain ⟨w4, hrun, ho4, hk4⟩ := copy_shift (w := w3.drew) (p := p) (d := (c - (p + 1))) (s := c - p) (o := 0) 3 O3.out.drew (by rw [List.length_append, List.length_singleton, HF.out]) (by omega) (.inr ⟨by omega, by have := HC.out; omega⟩)
              rw [show k + 1 - (p + 1) = k - p by omega] at hrun
              refine oneH (i := 7) rfl (by kernel_rfl) rfl (op_run (d := 113) (v' := goInt (((k - p) : Nat) : Int)) (w' := w4) rfl (by go_simp) ⟨trivial, ?_⟩)
              simp only [Act.put, List.setIfInBounds_toArray, List.set_cons_zero, List.set_cons_succ]
              refine wpAnyH_done (by kernel_rfl) ?_ _
              have B4 : Hid (Below V0.heap.size V0 w4) := B3.out.trans ((Kept.refl (fun q => q = g) w3).drew.trans hk4 |>.below B3.out.size (fun q hq => by rw [hq]; exact hgB))
              have O4 : Hid (w4.ownsRow V0.heap.size 3 1 (.slice (some ⟨g, 0, none⟩) (k + 1) c) (k + 1) (((f ++ [0]).take (p + 1) ++ ((f ++ [0]).drop p).take (k - p)).flatMap encI)) := by
                show World.ownsRow _ _ _ _ _ _ _
                rw [show k - p = k + 1 - (p + 1) by omega]
                exact ho4
              have O5 : Hid ((w4.setCell ⟨g, p, none⟩ (.int .i64 (k : Int))).ownsRow V0.heap.size 3 1 (.slice (some ⟨g, 0, none⟩) (k + 1) c) (turnT o (k + 1)).length ((turnT o (k + 1)).flatMap encI)) := by
                show World.ownsRow _ _ _ _ _ _ _
                have h1 := own_setN (j := p) (x := (k : Int)) O4.out
                rw [shift_set HF.out (by omega), ← HTN.out] at h1
                rw [turnT_len]
                exact h1
              have B5 : Hid (Below V0.heap.size V0 (w4.setCell ⟨g, p, none⟩ (.int .i64 (k : Int)))) := B4.out.setCell (p := ⟨g, p, none⟩) hgB _
              obtain ⟨y, hy⟩ := getX (show p < ((f ++ [0]).take (p + 1) ++ ((f ++ [0]).drop p).take (k - p)).length by rw [List.length_append, List.length_take, List.length_append, HF.out]; simp; try omega)
              have d4 := own_atN O4.out hy
              have d5 := frozenK O4.out p
              clear hy ho4 hk4 hrun q5 q6 q7 q2 q3 q1
              go_wp2_with fail
              go_roundw
              case rel => exact ⟨k + 1, _, rfl, by omega, by go_num, O5.out, B5.out⟩
              case measure => simp [intOf]; omega
          · have hp0 : p = 0 := by rw [← HPO.out]; exact atO_none (by omega)
            subst hp0
            go_wp2_with (at_builtin; refine wpList_append_newK kI rfl _ _ rfl V0.heap.size u f rfl (OW.out.alloc _) _ 0 rfl #[.int .i64 0] rfl (0, 0) (heap_alloc_new _ _) (by simp [kI]; omega) (by unfold maxLen; omega) (by simp; omega) ?_)
            intro g c w3 hown3 hb3 hg3
            have B3 : Hid (Below V0.heap.size V0 w3) := (HB2.out.alloc hsr2 _).trans hb3
            have O3 : Hid (w3.ownsRow V0.heap.size 3 1 (.slice (some ⟨g, 0, none⟩) (k + 1) c) (k + 1) ((f ++ [0]).flatMap encI)) := by
              show World.ownsRow _ _ _ _ _ _ _
              rw [flat_snoc]
              have := hown3
              rw [HF.out] at this
              exact this
            rw [HF.out]
            have hkc : k + 1 ≤ c := by rcases O3.out.2 with ⟨hv, _⟩ | ⟨_, _, _, hv, _, _, h9, _⟩; cases hv; injection hv with _ _ h8; omega
            clear hown3 hb3 hg3
            go_upto_region 20 with fail
            have q5 : ¬ c = 0 := by omega
            have q7 : (0 : Int) ≤ 0 := by omega
            have q6 : 0 ≤ (k : Int) + 1 := by omega
            have q3 : 1 ≤ (k : Int) + 1 := by omega
            have q2 : (0 : Int) ≤ 1 := by omega
            have q1 : IntKind.i64.wrap 1 = 1 := by rw [IntKind.wrap_i64]; omega
            have hgB : V0.heap.size ≤ g := (own_ge O3.out rfl).1
            refine wp_region_held (S := fun _ => True) (by kernel_rfl) ?_
            simp only [List.size_toArray, List.length_cons, List.length_nil, Nat.reduceAdd]
            refine takeH (i := 0) (v := .slice (some ⟨g, 0, none⟩) (k + 1) c) (d := 106) rfl rfl (by kernel_rfl) (by kernel_rfl) (by kernel_rfl) (fun _ _ _ h => h) (by rfl) (fun V hV => by go_simp) trivial ?_
            simp only [Act.put, List.setIfInBounds_toArray, List.set_cons_zero, List.set_cons_succ]
            refine takeH (i := 1) (v := .int .i64 0) (d := 107) rfl rfl (by kernel_rfl) (by kernel_rfl) (by kernel_rfl) (fun _ _ _ h => h) (by rfl) (fun V hV => by go_simp) trivial ?_
            simp only [Act.put, List.setIfInBounds_toArray, List.set_cons_zero, List.set_cons_succ]
            refine takeH (i := 2) (v := .int .i64 1) (d := 108) rfl rfl (by kernel_rfl) (by kernel_rfl) (by kernel_rfl) (fun _ _ _ h => h) (by rfl) (fun V hV => by go_simp) trivial ?_
            simp only [Act.put, List.setIfInBounds_toArray, List.set_cons_zero, List.set_cons_succ]
            by_cases hpc : 1 < c
            · have q4 : ¬ c = 1 := by omega
              refine takeH (i := 3) (v := .slice (some ⟨g, 1, none⟩) k (c - 1)) (d := 109) rfl rfl (by kernel_rfl) (by kernel_rfl) (by kernel_rfl) (fun _ _ _ h => h) (by rfl) (fun V hV => by go_simp) trivial ?_
              simp only [Act.put, List.setIfInBounds_toArray, List.set_cons_zero, List.set_cons_succ]
              refine takeH (i := 4) (v := .slice (some ⟨g, 0, none⟩) (k + 1) c) (d := 110) rfl rfl (by kernel_rfl) (by kernel_rfl) (by kernel_rfl) (fun _ _ _ h => h) (by rfl) (fun V hV => by go_simp) trivial ?_
              simp only [Act.put, List.setIfInBounds_toArray, List.set_cons_zero, List.set_cons_succ]
              refine takeH (i := 5) (v := .int .i64 0) (d := 111) rfl rfl (by kernel_rfl) (by kernel_rfl) (by kernel_rfl) (fun _ _ _ h => h) (by rfl) (fun V hV => by go_simp) trivial ?_
              simp only [Act.put, List.setIfInBounds_toArray, List.set_cons_zero, List.set_cons_succ]
              refine takeH (i := 6) (v := .slice (some ⟨g, 0, none⟩) (k + 1) c) (d := 112) rfl rfl (by kernel_rfl) (by kernel_rfl) (by kernel_rfl) (fun _ _ _ h => h) (by rfl) (fun V hV => by go_simp) trivial ?_
              simp only [Act.put, List.setIfInBounds_toArray, List.set_cons_zero, List.set_cons_succ]
              obtain ⟨w4, hrun, ho4, hk4⟩ := copy_shift (w := w3.drew) (p := 0) (d := (c - 1)) (s := c) (o := 1) 3 O3.out.drew (by rw [List.length_append, List.length_singleton, HF.out]) (by omega) (.inl rfl)
              simp only [Nat.zero_add, Nat.add_sub_cancel, Nat.sub_zero] at hrun
              refine oneH (i := 7) rfl (by kernel_rfl) rfl (op_run (d := 113) (v' := goInt ((k : Nat) : Int)) (w' := w4) rfl (by go_simp) ⟨trivial, ?_⟩)
              simp only [Act.put, List.setIfInBounds_toArray, List.set_cons_zero, List.set_cons_succ]
              refine wpAnyH_done (by kernel_rfl) ?_ _
              have B4 : Hid (Below V0.heap.size V0 w4) := B3.out.trans ((Kept.refl (fun q => q = g) w3).drew.trans hk4 |>.below B3.out.size (fun q hq => by rw [hq]; exact hgB))
              have O4 : Hid (w4.ownsRow V0.heap.size 3 1 (.slice (some ⟨g, 0, none⟩) (k + 1) c) (k + 1) (((f ++ [0]).take (0 + 1) ++ ((f ++ [0]).drop 0).take (k - 0)).flatMap encI)) := by
                show World.ownsRow _ _ _ _ _ _ _
                rw [show k - 0 = k + 1 - (0 + 1) by omega]
                exact ho4
              have O5 : Hid ((w4.setCell ⟨g, 0, none⟩ (.int .i64 (k : Int))).ownsRow V0.heap.size 3 1 (.slice (some ⟨g, 0, none⟩) (k + 1) c) (turnT o (k + 1)).length ((turnT o (k + 1)).flatMap encI)) := by
                show World.ownsRow _ _ _ _ _ _ _
                have h1 := own_setN (j := 0) (x := (k : Int)) O4.out
                rw [shift_set HF.out (by omega), ← HTN.out] at h1
                rw [turnT_len]
                exact h1
              have B5 : Hid (Below V0.heap.size V0 (w4.setCell ⟨g, 0, none⟩ (.int .i64 (k : Int)))) := B4.out.setCell (p := ⟨g, 0, none⟩) hgB _
              obtain ⟨y, hy⟩ := getX (show 0 < ((f ++ [0]).take (0 + 1) ++ ((f ++ [0]).drop 0).take (k - 0)).length by rw [List.length_append, List.length_take, List.length_append, HF.out]; simp; try omega)
              have d4 := own_atN O4.out hy
              have d5 := frozenK O4.out 0
              clear hy ho4 hk4 hrun q5 q6 q7 q2 q3 q1
              go_wp2_with fail
              go_roundw
              case rel => exact ⟨k + 1, _, rfl, by omega, by go_num, O5.out, B5.out⟩
              case measure => simp [intOf]; omega
            · have HC : Hid (c = 1) := by show c = _; omega
              refine takeH (i := 3) (v := .slice (some ⟨g, 0, none⟩) k (c - 1)) (d := 109) rfl rfl (by kernel_rfl) (by kernel_rfl) (by kernel_rfl) (fun _ _ _ h => h) (by rfl) (fun V hV => by have q4 : c = 1 := HC.out; go_simp) trivial ?_
              simp only [Act.put, List.setIfInBounds_toArray, List.set_cons_zero, List.set_cons_succ]
              refine takeH (i := 4) (v := .slice (some ⟨g, 0, none⟩) (k + 1) c) (d := 110) rfl rfl (by kernel_rfl) (by kernel_rfl) (by kernel_rfl) (fun _ _ _ h => h) (by rfl) (fun V hV => by go_simp) trivial ?_
              simp only [Act.put, List.setIfInBounds_toArray, List.set_cons_zero, List.set_cons_succ]
              refine takeH (i := 5) (v := .int .i64 0) (d := 111) rfl rfl (by kernel_rfl) (by kernel_rfl) (by kernel_rfl) (fun _ _ _ h => h) (by rfl) (fun V hV => by go_simp) trivial ?_
              simp only [Act.put, List.setIfInBounds_toArray, List.set_cons_zero, List.set_cons_succ]
              refine takeH (i := 6) (v := .slice (some ⟨g, 0, none⟩) (k + 1) c) (d := 112) rfl rfl (by kernel_rfl) (by kernel_rfl) (by kernel_rfl) (fun _ _ _ h => h) (by rfl) (fun V hV => by go_simp) trivial ?_
              simp only [Act.put, List.setIfInBounds_toArray, List.set_cons_zero, List.set_cons_succ]
              obtain ⟨w4, hrun, ho4, hk4⟩ := copy_shift (w := w3.drew) (p := 0) (d := (c - 1)) (s := c) (o := 0) 3 O3.out.drew (by rw [List.length_append, List.length_singleton, HF.out]) (by omega) (.inr ⟨by omega, by have := HC.out; omega⟩)
              simp only [Nat.zero_add, Nat.add_sub_cancel, Nat.sub_zero] at hrun
              refine oneH (i := 7) rfl (by kernel_rfl) rfl (op_run (d := 113) (v' := goInt ((k : Nat) : Int)) (w' := w4) rfl (by go_simp) ⟨trivial, ?_⟩)
              simp only [Act.put, List.setIfInBounds_toArray, List.set_cons_zero, List.set_cons_succ]
              refine wpAnyH_done (by kernel_rfl) ?_ _
              have B4 : Hid (Below V0.heap.size V0 w4) := B3.out.trans ((Kept.refl (fun q => q = g) w3).drew.trans hk4 |>.below B3.out.size (fun q hq => by rw [hq]; exact hgB))
              have O4 : Hid (w4.ownsRow V0.heap.size 3 1 (.slice (some ⟨g, 0, none⟩) (k + 1) c) (k + 1) (((f ++ [0]).take (0 + 1) ++ ((f ++ [0]).drop 0).take (k - 0)).flatMap encI)) := by
                show World.ownsRow _ _ _ _ _ _ _
                rw [show k - 0 = k + 1 - (0 + 1) by omega]
                exact ho4
              have O5 : Hid ((w4.setCell ⟨g, 0, none⟩ (.int .i64 (k : Int))).ownsRow V0.heap.size 3 1 (.slice (some ⟨g, 0, none⟩) (k + 1) c) (turnT o (k + 1)).length ((turnT o (k + 1)).flatMap encI)) := by
                show World.ownsRow _ _ _ _ _ _ _
                have h1 := own_setN (j := 0) (x := (k : Int)) O4.out
                rw [shift_set HF.out (by omega), ← HTN.out] at h1
                rw [turnT_len]
                exact h1
              have B5 : Hid (Below V0.heap.size V0 (w4.setCell ⟨g, 0, none⟩ (.int .i64 (k : Int)))) := B4.out.setCell (p := ⟨g, 0, none⟩) hgB _
              obtain ⟨y, hy⟩ := getX (show 0 < ((f ++ [0]).take (0 + 1) ++ ((f ++ [0]).drop 0).take (k - 0)).length by rw [List.length_append, List.length_take, List.length_append, HF.out]; simp; try omega)
              have d4 := own_atN O4.out hy
              have d5 := frozenK O4.out 0
              clear hy ho4 hk4 hrun q5 q6 q7 q2 q3 q1
              go_wp2_with fail
              go_roundw
              case rel => exact ⟨k + 1, _, rfl, by omega, by go_num, O5.out, B5.out⟩
              case measure => simp [intOf]; omega
        · have ek : k = W := by omega
          have OT : Hid (wr.ownsRow V0.heap.size 3 1 u W ((turnT o W).flatMap encI)) := by
            show World.ownsRow _ _ _ _ _ _ _
            have := OW.out
            rwa [ek, turnT_len] at this
          clear ek OW
          have HB1 : Below V0.heap.size V0 wr := HB2.out
          have hqV := XV.out.lt
          have XB1 : Hid (BX 24 wr qb #[.int .i64 (W : Int), .int .i64 2, .int .i64 3, .slice none 0 0]) := XV.out.below HB1 hqV
          have OS1 : Hid (wr.ownsRow (w.heap.size + 1) 3 1 (.slice (some ⟨w.heap.size + 1, 0, none⟩) S S) S ((matF W l (S)).flatMap encI)) := own_below OV.out HB1 (Nat.le_refl _)
          have BW1 : Hid (Below w.heap.size w wr) := HBW.out
          have MM1 : Hid (BX 24 wr w.heap.size #[.int .i64 0, .int .i64 0, .int .i64 0, .slice none 0 0]) := (M0.out.below BV.out (Nat.lt_succ_self _)).below HB1 (by omega)
          obtain ⟨ua, uc, rfl⟩ : ∃ a c, u = .slice a W c := by
            have h := (RowK.own encI_len (by rw [turnT_len]; exact OT.out) : InR wr u (turnT o W)).shape
            rwa [turnT_len] at h
          have hsz1 : V0.heap.size ≤ wr.heap.size := HB1.size
          obtain ⟨V1, hV1⟩ : ∃ V1, V1 = wr := ⟨_, rfl⟩
          rw [← hV1] at XB1 OS1 BW1 MM1 OT hsz1
          have HKX : Hid (∀ X, Kept (fun q => q = qb) V1 X → Below w.heap.size w X ∧ BX 24 X w.heap.size #[.int .i64 0, .int .i64 0, .int .i64 0, .slice none 0 0] ∧ InR X (.slice (some ⟨w.heap.size + 1, 0, none⟩) S S) (matF W l S) ∧ InR X (.slice ua W uc) (turnT o W)) := fun X hk => by
            refine ⟨BW1.out.trans (hk.below (by have := BW1.out.size; omega) (fun q hq => by rw [hq]; omega)), MM1.out.kept hk (by omega), ?_, ?_⟩
            · have h1 := hk.own OS1.out fun g hg => own_block OS1.out hg XB1.out (by decide)
              exact RowK.own encI_len (by rw [matF_len, ← HS.out]; exact h1)
            · have h1 := hk.own OT.out fun g hg => own_block OT.out hg XB1.out (by decide)
              exact RowK.own encI_len (by rw [turnT_len]; exact h1)
          have K0 : Hid (Kept (fun q => q = qb) V1 wr) := by rw [← hV1]; exact Kept.refl _ _
          have XB0 : Hid (BX 24 wr qb #[.int .i64 (W : Int), .int .i64 2, .int .i64 3, .slice none 0 0]) := by rw [← hV1]; exact XB1.out
          clear HB1 hV1 HB2 OV XV HBW OT OS1
          go_wp2_with fail
          go_loopw [20] (fun j wr => ∃ (t : Nat) (vr : Value), t ≤ W ∧ j = .int .i64 t ∧ BX 24 wr qb #[.int .i64 (W : Int), .int .i64 2, .int .i64 3, vr] ∧ OwnR wr V1.heap.size vr (repsT W l o out off t) ∧ Kept (fun q => q = qb) V1 wr) (fun j _ => W - (intOf j).toNat)
          case atStart => exact ⟨0, _, by omega, rfl, XB0.out, OwnR.nil _ _, K0.out⟩
          case round =>
            obtain ⟨t, vr, ht, rfl, hqx, hor, hkp⟩ := hrel
            have QX : Hid (BX 24 wr qb #[.int .i64 (W : Int), .int .i64 2, .int .i64 3, vr]) := hqx
            have OR : Hid (OwnR wr V1.heap.size vr (repsT W l o out off t)) := hor
            have KP : Hid (Kept (fun q => q = qb) V1 wr) := hkp
            have hskp := hkp.size
            clear hqx hor hkp
            obtain ⟨BWr, MMr, ISr, ITr⟩ := HKX.out _ KP.out
            have HBWr : Hid (Below w.heap.size w wr) := BWr
            have HMr : Hid (BX 24 wr w.heap.size #[.int .i64 0, .int .i64 0, .int .i64 0, .slice none 0 0]) := MMr
            have HIS : Hid (InR wr (.slice (some ⟨w.heap.size + 1, 0, none⟩) S S) (matF W l S)) := ISr
            by_cases hlt : t < W
            · obtain ⟨tb, toff, tcap, e1, _, _, _, hvt⟩ := InR.at ITr (by rw [turnT_len]; omega)
              injection e1 with e1 e2 e3
              subst e1 e3
              clear e2
              obtain ⟨x, hx⟩ := getX (show t < (turnT o W).length by rw [turnT_len]; exact hlt)
              have d0 := hvt t x hx
              obtain ⟨i, hi, rfl⟩ := turnT_mem.1 (List.mem_of_getElem? hx)
              have HX : Hid ((turnT o W)[t]? = some (i : Int)) := hx
              clear hvt hx BWr MMr ISr ITr
              by_cases hio : (i : Int) = out
              · have HR : Hid (repsT W l o out off (t + 1) = repsT W l o out off t) := repsT_skip HX.out hio
                have tio : ((i : Int) == out) = true := by simpa using hio
                clear hio
                go_wp2_with fail
                go_roundw
                case rel => exact ⟨t + 1, vr, by omega, by go_num, QX.out, by rw [HR.out]; exact OR.out, KP.out⟩
                case measure => simp [intOf]; omega
              have tio : ((i : Int) == out) = false := by simpa using hio
              obtain ⟨HH1, HH2⟩ := brdT_hear (l := l) (off := off) HW.out hlt hi HX.out hio
              have HHE : Hid (heE (brdT W l o out off t) (repT W l off i) = 0 ∧ heB (brdT W l o out off t) (repT W l off i) = brdT W l o out off (t + 1)) := ⟨HH1, HH2⟩
              clear hio HH1 HH2
              generalize wr = Wr at *
              have E0 : Hid (Below Wr.heap.size Wr (Wr.alloc (.cells #[.int .i64 (i : Int), .int .i64 2, .int .i64 3, .slice none 0 0, .slice none 0 0, .int .i64 0, .int .i64 0] 32)) ∧ BX 32 (Wr.alloc (.cells #[.int .i64 (i : Int), .int .i64 2, .int .i64 3, .slice none 0 0, .slice none 0 0, .int .i64 0, .int .i64 0] 32)) Wr.heap.size #[.int .i64 (i : Int), .int .i64 2, .int .i64 3, .slice none 0 0, .slice none 0 0, .int .i64 0, .int .i64 0]) := ⟨below_alloc _ _, BX.new _ _ _⟩
              go_upto_region 28 with fail
              clear d0 tio
              by_cases hil : i < l.length
              · obtain ⟨lb, loff, lcap, e1, hv⟩ := (HL.out.below HBWr.out (Nat.le_refl _)).at (by omega)
                injection e1 with e1 e2 e3
                subst e1 e3
                clear e2
                obtain ⟨y, hy⟩ := getX hil
                obtain ⟨sa, sc, ⟨d0, d1, d2⟩, _⟩ := hv i y hy
                have hyb := HLB.out y (List.mem_of_getElem? hy)
                have CW : Hid (∀ X, Calls Try.prog 17 #[.int .i64 y.waking, .int .i64 5] X fun e w' => e = .returned (.int .i64 (wakT l i)) ∧ w' = X) := fun X => by
                  have h1 := picked_any y.waking 5 X hyb.2.1.1 hyb.2.1.2 (by decide) (by decide)
                  unfold wakT
                  rw [hy]
                  exact h1
                have CO : Hid (∀ X, Calls Try.prog 17 #[.int .i64 y.opn, .int .i64 5] X fun e w' => e = .returned (.int .i64 (opnT l i)) ∧ w' = X) := fun X => by
                  have h1 := picked_any y.opn 5 X hyb.2.2.1 hyb.2.2.2 (by decide) (by decide)
                  unfold opnT
                  rw [hy]
                  exact h1
                clear hv hy hyb
                have ltl : lb < Wr.heap.size := World.block_lt_of_cell? Wr _ d1
                generalize Wr.alloc (.cells #[.int .i64 (i : Int), .int .i64 2, .int .i64 3, .slice none 0 0, .slice none 0 0, .int .i64 0, .int .i64 0] 32) = Y0 at *
                have x0 := E0.out.2.all7
                have x1 := E0.out.2.all7f
                obtain ⟨y0, y1, y2, y3, y4, y5, y6⟩ := x0
                obtain ⟨z0, z1, z2, z3, z4, z5, z6⟩ := x1
                have g1 := (E0.out.1.cell (p := ⟨lb, loff + i * 3 + 1, none⟩) (show lb < Wr.heap.size from ltl)).trans d1
                have E1 : Hid (Below Wr.heap.size Wr (Y0.setCell ⟨Wr.heap.size, 5, none⟩ (.int .i64 (wakT l i))) ∧ BX 32 (Y0.setCell ⟨Wr.heap.size, 5, none⟩ (.int .i64 (wakT l i))) Wr.heap.size #[.int .i64 (i : Int), .int .i64 2, .int .i64 3, .slice none 0 0, .slice none 0 0, .int .i64 (wakT l i), .int .i64 0]) := ⟨E0.out.1.setCell (Nat.le_refl _) _, E0.out.2.set 5 _⟩
                clear d0 d1
                go_wp2_with fail
                refine (CW.out _).mono ?_
                rintro e w9 ⟨rfl, e9⟩
                have e9' : Y0 = w9 := e9.symm
                subst e9'
                clear e9
                go_upto_region 30 with fail
                clear y0 y1 y2 y3 y4 y5 y6 z0 z1 z2 z3 z4 z5 z6 g1
                generalize Y0.setCell ⟨Wr.heap.size, 5, none⟩ (.int .i64 (wakT l i)) = Y1 at *
                obtain ⟨y0, y1, y2, y3, y4, y5, y6⟩ := E1.out.2.all7
                obtain ⟨z0, z1, z2, z3, z4, z5, z6⟩ := E1.out.2.all7f
                have g1 := (E1.out.1.cell (p := ⟨lb, loff + i * 3 + 2, none⟩) (show lb < Wr.heap.size from ltl)).trans d2
                have E2 : Hid (Below Wr.heap.size Wr (Y1.setCell ⟨Wr.heap.size, 6, none⟩ (.int .i64 (opnT l i))) ∧ BX 32 (Y1.setCell ⟨Wr.heap.size, 6, none⟩ (.int .i64 (opnT l i))) Wr.heap.size #[.int .i64 (i : Int), .int .i64 2, .int .i64 3, .slice none 0 0, .slice none 0 0, .int .i64 (wakT l i), .int .i64 (opnT l i)]) := ⟨E1.out.1.setCell (Nat.le_refl _) _, E1.out.2.set 6 _⟩
                clear d2
                go_wp2_with fail
                refine (CO.out _).mono ?_
                rintro e w9 ⟨rfl, e9⟩
                have e9' : Y1 = w9 := e9.symm
                subst e9'
                clear e9
                go_upto_region 31 with fail
                clear y0 y1 y2 y3 y4 y5 y6 z0 z1 z2 z3 z4 z5 z6 g1 CW CO E1 E0
                generalize Y1.setCell ⟨Wr.heap.size, 6, none⟩ (.int .i64 (opnT l i)) = Y at *
                have BY : Hid (Below Wr.heap.size Wr Y) := E2.out.1
                have XY : Hid (BX 32 Y Wr.heap.size #[.int .i64 (i : Int), .int .i64 2, .int .i64 3, .slice none 0 0, .slice none 0 0, .int .i64 (wakT l i), .int .i64 (opnT l i)]) := E2.out.2
                clear E2
                have hq7 := XY.out.lt
                have hsY := BY.out.size
                go_wp2_with fail
                go_loopw [23] (fun j wr => ∃ (k : Nat) (va vb : Value), k ≤ W ∧ j = .int .i64 k ∧ BX 32 wr Wr.heap.size #[.int .i64 (i : Int), .int .i64 2, .int .i64 3, va, vb, .int .i64 (wakT l i), .int .i64 (opnT l i)] ∧ (wr.ownsRow Wr.heap.size 3 1 va ((List.range k).map (sentAt l i)).length (((List.range k).map (sentAt l i)).flatMap encI)) ∧ (wr.ownsRow Wr.heap.size 3 1 vb ((List.range k).map (gotT W l off i)).length (((List.range k).map (gotT W l off i)).flatMap encI)) ∧ Apt va vb ∧ Below Wr.heap.size Wr wr) (fun j _ => W - (intOf j).toNat)
                case atStart => exact ⟨0, _, _, by omega, rfl, XY.out, World.ownsRow_nil _ _ _ _, World.ownsRow_nil _ _ _ _, Apt.nil _, BY.out⟩
                case round =>
                  obtain ⟨k, va, vb, hk, rfl, hx4, ha4, hb4, hapt, hbel4⟩ := hrel
                  have X4 : Hid (BX 32 wr Wr.heap.size #[.int .i64 (i : Int), .int .i64 2, .int .i64 3, va, vb, .int .i64 (wakT l i), .int .i64 (opnT l i)]) := hx4
                  have A4 : Hid (wr.ownsRow Wr.heap.size 3 1 va ((List.range k).map (sentAt l i)).length (((List.range k).map (sentAt l i)).flatMap encI)) := ha4
                  have B4 : Hid (wr.ownsRow Wr.heap.size 3 1 vb ((List.range k).map (gotT W l off i)).length (((List.range k).map (gotT W l off i)).flatMap encI)) := hb4
                  have AP : Hid (Apt va vb) := hapt
                  have E4 : Hid (Below Wr.heap.size Wr wr) := hbel4
                  have hs4 := hbel4.size
                  clear hx4 ha4 hb4 hapt hbel4
                  by_cases hlk : k < W
                  · obtain ⟨p, hp⟩ : ∃ p, p = i * W := ⟨_, rfl⟩
                    have hpi : (i : Int) * (W : Int) = (p : Int) := by rw [hp]; exact (Int.natCast_mul i W).symm
                    obtain ⟨p2, hp2⟩ : ∃ p2, p2 = k * W := ⟨_, rfl⟩
                    have hpk : (k : Int) * (W : Int) = (p2 : Int) := by rw [hp2]; exact (Int.natCast_mul k W).symm
                    have l1 : p + k < S := by rw [hp, HS.out]; exact pos_lt hi hlk
                    have l2 : p2 + i < S := by rw [hp2, HS.out]; exact pos_lt hlk hi
                    have HC : Hid (∀ X, Below Wr.heap.size Wr X → X.cell? ⟨w.heap.size + 1, p + k, none⟩ = some (.int .i64 (sentAt l i k)) ∧ X.cell? ⟨w.heap.size + 1, p2 + i, none⟩ = some (.int .i64 (sentAt l k i))) := fun X hX => by
                      obtain ⟨sb, soff, scap, e1, _, _, slt, hvs⟩ := InR.at HIS.out (by rw [matF_len, ← HS.out]; omega)
                      injection e1 with e1 _ _
                      injection e1 with e1
                      injection e1 with e4 e5
                      subst e4 e5
                      have h1 := hvs (p + k) _ (by rw [hp, HS.out]; exact matF_at hi hlk)
                      have h2 := hvs (p2 + i) _ (by rw [hp2, HS.out]; exact matF_at hlk hi)
                      rw [Nat.zero_add] at h1 h2
                      exact ⟨(hX.cell (p := ⟨w.heap.size + 1, p + k, none⟩) slt).trans h1, (hX.cell (p := ⟨w.heap.size + 1, p2 + i, none⟩) slt).trans h2⟩
                    have HGT : Hid (gotT W l off i k = if ((p2 + i : Nat) : Int) = off then sentAt l k i + 1 else sentAt l k i) := by show _ = _; rw [hp2]; rfl
                    have HSA : Hid ((List.range (k + 1)).map (sentAt l i) = (List.range k).map (sentAt l i) ++ [sentAt l i k]) := by show _ = _; rw [List.range_succ, List.map_append]; rfl
                    have HGA : Hid ((List.range (k + 1)).map (gotT W l off i) = (List.range k).map (gotT W l off i) ++ [gotT W l off i k]) := by show _ = _; rw [List.range_succ, List.map_append]; rfl
                    have hnb := sentAt_bd l k i
                    clear hp hp2
                    have hfa : ((List.range k).map (sentAt l i)).length ≤ k := by simp
                    have hfb : ((List.range k).map (gotT W l off i)).length ≤ k := by simp
                    generalize hfae : (List.range k).map (sentAt l i) = fa at *
                    generalize hfbe : (List.range k).map (gotT W l off i) = fb at *
                    clear hfae hfbe
                    generalize sentAt l i k = sv at *
                    generalize sentAt l k i = nv at *
                    obtain ⟨aa, ac, rfl⟩ := (RowK.own encI_len A4.out : InR wr va fa).shape
                    obtain ⟨ba, bc, rfl⟩ := (RowK.own encI_len B4.out : InR wr vb fb).shape
                    go_upto_region 34 with fail
                    have q1 : IntKind.i64.wrap (p : Int) = (p : Int) := by rw [IntKind.wrap_i64]; omega
                    have q2 : IntKind.i64.wrap ((p : Int) + (k : Int)) = (p : Int) + (k : Int) := by rw [IntKind.wrap_i64]; omega
                    have q3 : ((p : Int) + (k : Int)).toNat = p + k := by omega
                    have q4 : (0 : Int) ≤ (p : Int) + (k : Int) := by omega
                    have q5 : (p : Int) + (k : Int) < (S : Int) := by omega
                    have bd : Below Wr.heap.size Wr wr.drew := E4.out.drew
                    have xd : BX 32 wr.drew Wr.heap.size #[.int .i64 (i : Int), .int .i64 2, .int .i64 3, .slice aa fa.length ac, .slice ba fb.length bc, .int .i64 (wakT l i), .int .i64 (opnT l i)] := X4.out.drew
                    have HSD : Hid (wr.drew.cell? ⟨Wr.heap.size, 3, none⟩ = some (.slice aa fa.length ac) ∧ wr.drew.cell? ⟨w.heap.size + 1, p + k, none⟩ = some (.int .i64 sv)) := ⟨xd.all7.2.2.2.1, (HC.out _ bd).1⟩
                    refine region_lastF (S := fun V => V.cell? ⟨Wr.heap.size, 3, none⟩ = some (.slice aa fa.length ac) ∧ V.cell? ⟨w.heap.size + 1, p + k, none⟩ = some (.int .i64 sv)) (by kernel_rfl) rfl (by kernel_rfl) (by kernel_rfl) ?_
                    simp only [List.pop_toArray, List.dropLast_cons_cons, List.dropLast_singleton, List.size_toArray, List.length_cons, List.length_nil, Nat.reduceAdd]
                    refine takeH (i := 0) (v := .pointer (some ⟨Wr.heap.size, 3, none⟩)) (d := 155) rfl rfl (by kernel_rfl) (by kernel_rfl) (by kernel_rfl) (fun _ _ _ h => h) (by rfl) (fun V hV => by obtain ⟨v1, v2⟩ := hV; go_simp) HSD.out ?_
                    simp only [Act.put, List.setIfInBounds_toArray, List.set_cons_zero, List.set_cons_succ]
                    refine takeH (i := 1) (v := .slice aa fa.length ac) (d := 156) rfl rfl (by kernel_rfl) (by kernel_rfl) (by kernel_rfl) (fun _ _ _ h => h) (by rfl) (fun V hV => by obtain ⟨v1, v2⟩ := hV; go_simp) HSD.out ?_
                    simp only [Act.put, List.setIfInBounds_toArray, List.set_cons_zero, List.set_cons_succ]
                    refine takeH (i := 2) (v := .slice (some ⟨w.heap.size + 1, 0, none⟩) S S) (d := 157) rfl rfl (by kernel_rfl) (by kernel_rfl) (by kernel_rfl) (fun _ _ _ h => h) (by rfl) (fun V hV => by obtain ⟨v1, v2⟩ := hV; go_simp) HSD.out ?_
                    simp only [Act.put, List.setIfInBounds_toArray, List.set_cons_zero, List.set_cons_succ]
                    refine takeH (i := 3) (v := .int .i64 (i : Int)) (d := 158) rfl rfl (by kernel_rfl) (by kernel_rfl) (by kernel_rfl) (fun _ _ _ h => h) (by rfl) (fun V hV => by obtain ⟨v1, v2⟩ := hV; go_simp) HSD.out ?_
                    simp only [Act.put, List.setIfInBounds_toArray, List.set_cons_zero, List.set_cons_succ]
                    refine takeH (i := 4) (v := .int .i64 (W : Int)) (d := 159) rfl rfl (by kernel_rfl) (by kernel_rfl) (by kernel_rfl) (fun _ _ _ h => h) (by rfl) (fun V hV => by obtain ⟨v1, v2⟩ := hV; go_simp) HSD.out ?_
                    simp only [Act.put, List.setIfInBounds_toArray, List.set_cons_zero, List.set_cons_succ]
                    refine takeH (i := 5) (v := .int .i64 (p : Int)) (d := 160) rfl rfl (by kernel_rfl) (by kernel_rfl) (by kernel_rfl) (fun _ _ _ h => h) (by rfl) (fun V hV => by obtain ⟨v1, v2⟩ := hV; go_simp) HSD.out ?_
                    simp only [Act.put, List.setIfInBounds_toArray, List.set_cons_zero, List.set_cons_succ]
                    refine takeH (i := 6) (v := .int .i64 (k : Int)) (d := 161) rfl rfl (by kernel_rfl) (by kernel_rfl) (by kernel_rfl) (fun _ _ _ h => h) (by rfl) (fun V hV => by obtain ⟨v1, v2⟩ := hV; go_simp) HSD.out ?_
                    simp only [Act.put, List.setIfInBounds_toArray, List.set_cons_zero, List.set_cons_succ]
                    refine takeH (i := 7) (v := .int .i64 ((p : Int) + (k : Int))) (d := 162) rfl rfl (by kernel_rfl) (by kernel_rfl) (by kernel_rfl) (fun _ _ _ h => h) (by rfl) (fun V hV => by obtain ⟨v1, v2⟩ := hV; go_simp) HSD.out ?_
                    simp only [Act.put, List.setIfInBounds_toArray, List.set_cons_zero, List.set_cons_succ]
                    refine takeH (i := 8) (v := .pointer (some ⟨w.heap.size + 1, p + k, none⟩)) (d := 163) rfl rfl (by kernel_rfl) (by kernel_rfl) (by kernel_rfl) (fun _ _ _ h => h) (by rfl) (fun V hV => by obtain ⟨v1, v2⟩ := hV; go_simp) HSD.out ?_
                    simp only [Act.put, List.setIfInBounds_toArray, List.set_cons_zero, List.set_cons_succ]
                    refine takeH (i := 9) (v := .int .i64 sv) (d := 164) rfl rfl (by kernel_rfl) (by kernel_rfl) (by kernel_rfl) (fun _ _ _ h => h) (by rfl) (fun V hV => by obtain ⟨v1, v2⟩ := hV; go_simp) HSD.out ?_
                    simp only [Act.put, List.setIfInBounds_toArray, List.set_cons_zero, List.set_cons_succ]
                    have bA : Below Wr.heap.size Wr (wr.drew.alloc (.cells #[.int .i64 sv] 3)) := bd.alloc bd.size _
                    have xA : BX 32 (wr.drew.alloc (.cells #[.int .i64 sv] 3)) Wr.heap.size #[.int .i64 (i : Int), .int .i64 2, .int .i64 3, .slice aa fa.length ac, .slice ba fb.length bc, .int .i64 (wakT l i), .int .i64 (opnT l i)] := xd.below (below_alloc _ _) xd.lt
                    refine oneH (i := 10) rfl (by kernel_rfl) rfl (op_run (d := 165) (v' := .slice (some ⟨wr.heap.size, 0, none⟩) 1 1) (w' := wr.drew.alloc (.cells #[.int .i64 sv] 3)) rfl (by go_simp) ⟨⟨xA.all7.2.2.2.1, (HC.out _ bA).1⟩, ?_⟩)
                    simp only [Act.put, List.setIfInBounds_toArray, List.set_cons_zero, List.set_cons_succ]
                    have oA : (wr.drew.alloc (.cells #[.int .i64 sv] 3)).ownsRow Wr.heap.size 3 1 (.slice aa fa.length ac) fa.length (fa.flatMap encI) := own_below A4.out.drew (below_alloc _ _) (Nat.le_refl _)
                    have oB : (wr.drew.alloc (.cells #[.int .i64 sv] 3)).ownsRow Wr.heap.size 3 1 (.slice ba fb.length bc) fb.length (fb.flatMap encI) := own_below B4.out.drew (below_alloc _ _) (Nat.le_refl _)
                    obtain ⟨g, c, w5, hrun, ho5, hg5, hl5⟩ := run_append_newL kI (w := wr.drew.alloc (.cells #[.int .i64 sv] 3)) 30 Wr.heap.size (.slice aa fa.length ac) fa oA wr.heap.size sv #[.int .i64 sv] rfl (0, 0) (heap_alloc_new _ _) (by simp [kI]; omega) (by unfold maxLen; omega) bA.size
                    have X5 : Hid (BX 32 w5 Wr.heap.size #[.int .i64 (i : Int), .int .i64 2, .int .i64 3, .slice aa fa.length ac, .slice ba fb.length bc, .int .i64 (wakT l i), .int .i64 (opnT l i)]) := xA.grown oA (by decide) hg5
                    have E5 : Hid (Below Wr.heap.size Wr w5) := bA.trans ((Below.refl Wr.heap.size _).grown hg5 bA.size (fun j hj => (oA.lt j hj).1))
                    have B5 : Hid (w5.ownsRow Wr.heap.size 3 1 (.slice ba fb.length bc) fb.length (fb.flatMap encI)) := oB.kept hg5 AP.out.symm.or
                    have AP5 : Hid (Apt (.slice (some ⟨g, 0, none⟩) (fa.length + 1) c) (.slice ba fb.length bc)) := AP.out.grown hl5 oB
                    have A5 : Hid (w5.ownsRow Wr.heap.size 3 1 (.slice (some ⟨g, 0, none⟩) (fa.length + 1) c) ((List.range (k + 1)).map (sentAt l i)).length (((List.range (k + 1)).map (sentAt l i)).flatMap encI)) := by show World.ownsRow _ _ _ _ _ _ _; rw [HSA.out]; exact ho5
                    refine oneH (i := 11) rfl (by kernel_rfl) rfl (call_append (d := 166) (s := .tmp 156) (x := .tmp 165) (t := 30) rfl rfl (v := .slice aa fa.length ac) (v2 := .slice (some ⟨wr.heap.size, 0, none⟩) 1 1) (by simp [Act.eval]) (by simp [Act.eval]) hrun ⟨⟨X5.out.all7.2.2.2.1, (HC.out _ E5.out).1⟩, ?_⟩)
                    simp only [Act.put, List.setIfInBounds_toArray, List.set_cons_zero, List.set_cons_succ]
                    refine takeH (i := 12) (v := .pointer (some ⟨Wr.heap.size, 3, none⟩)) (d := 167) rfl rfl (by kernel_rfl) (by kernel_rfl) (by kernel_rfl) (fun _ _ _ h => h) (by rfl) (fun V hV => by obtain ⟨v1, v2⟩ := hV; go_simp) ⟨X5.out.all7.2.2.2.1, (HC.out _ E5.out).1⟩ ?_
                    simp only [Act.put, List.setIfInBounds_toArray, List.set_cons_zero, List.set_cons_succ]
                    refine wpAnyH_done (by kernel_rfl) ?_ _
                    generalize hla : fa.length + 1 = la1 at *
                    clear hla bA xA oA oB hrun ho5 hg5 hl5 bd xd HSD q1 q2 q3 q4 q5
                    have E6 : Hid (Below Wr.heap.size Wr (w5.setCell ⟨Wr.heap.size, 3, none⟩ (.slice (some ⟨g, 0, none⟩) la1 c)) ∧ BX 32 (w5.setCell ⟨Wr.heap.size, 3, none⟩ (.slice (some ⟨g, 0, none⟩) la1 c)) Wr.heap.size #[.int .i64 (i : Int), .int .i64 2, .int .i64 3, .slice (some ⟨g, 0, none⟩) la1 c, .slice ba fb.length bc, .int .i64 (wakT l i), .int .i64 (opnT l i)] ∧ ((w5.setCell ⟨Wr.heap.size, 3, none⟩ (.slice (some ⟨g, 0, none⟩) la1 c)).ownsRow Wr.heap.size 3 1 (.slice (some ⟨g, 0, none⟩) la1 c) ((List.range (k + 1)).map (sentAt l i)).length (((List.range (k + 1)).map (sentAt l i)).flatMap encI)) ∧ (w5.setCell ⟨Wr.heap.size, 3, none⟩ (.slice (some ⟨g, 0, none⟩) la1 c)).ownsRow Wr.heap.size 3 1 (.slice ba fb.length bc) fb.length (fb.flatMap encI)) := ⟨E5.out.setCell (Nat.le_refl _) _, X5.out.set 3 _, X5.out.own A5.out (by decide), X5.out.own B5.out (by decide)⟩
                    obtain ⟨y0, y1, y2, y3, y4, y5, y6⟩ := X5.out.all7
                    obtain ⟨z0, z1, z2, z3, z4, z5, z6⟩ := X5.out.all7f
                    show Oper.wp _ _ _ _ _ _
                    go_upto_region 35 with fail
                    clear y0 y1 y2 y3 y4 y5 y6 z0 z1 z2 z3 z4 z5 z6 X5 A5 B5 E5 A4 B4 X4 E4
                    generalize w5.setCell ⟨Wr.heap.size, 3, none⟩ (.slice (some ⟨g, 0, none⟩) la1 c) = w6 at *
                    have d0 := (HC.out _ E6.out.1).2
                    obtain ⟨y0, y1, y2, y3, y4, y5, y6⟩ := E6.out.2.1.all7
                    obtain ⟨z0, z1, z2, z3, z4, z5, z6⟩ := E6.out.2.1.all7f
                    have hs6 := E6.out.1.size
                    by_cases hof : ((p2 : Int) + (i : Int)) = off
                    · have HG2 : Hid (gotT W l off i k = nv + 1) := by show _ = _; rw [HGT.out, if_pos (by rw [← hof]; exact Int.natCast_add p2 i)]
                      have tof : (((p2 : Int) + (i : Int)) == off) = true := by simpa using hof
                      clear hof HGT
                      go_wp2_with (at_builtin; refine wpList_append_newL kI rfl _ _ rfl Wr.heap.size (.slice ba fb.length bc) fb rfl (own_below E6.out.2.2.2 (below_alloc _ _) (Nat.le_refl _)) _ (nv + 1) rfl #[.int .i64 (nv + 1)] rfl (0, 0) (heap_alloc_new _ _) (by simp [kI]; omega) (by unfold maxLen; omega) (by simp; omega) ?_)
                      intro g2 c2 w7 ho7 hg7 hl7
                      have oA : (w6.alloc (.cells #[.int .i64 (nv + 1)] 3)).ownsRow Wr.heap.size 3 1 (.slice (some ⟨g, 0, none⟩) la1 c) ((List.range (k + 1)).map (sentAt l i)).length (((List.range (k + 1)).map (sentAt l i)).flatMap encI) := own_below E6.out.2.2.1 (below_alloc _ _) (Nat.le_refl _)
                      have oB : (w6.alloc (.cells #[.int .i64 (nv + 1)] 3)).ownsRow Wr.heap.size 3 1 (.slice ba fb.length bc) fb.length (fb.flatMap encI) := own_below E6.out.2.2.2 (below_alloc _ _) (Nat.le_refl _)
                      have xA : BX 32 (w6.alloc (.cells #[.int .i64 (nv + 1)] 3)) Wr.heap.size #[.int .i64 (i : Int), .int .i64 2, .int .i64 3, .slice (some ⟨g, 0, none⟩) la1 c, .slice ba fb.length bc, .int .i64 (wakT l i), .int .i64 (opnT l i)] := E6.out.2.1.below (below_alloc _ _) E6.out.2.1.lt
                      have bA : Below Wr.heap.size Wr (w6.alloc (.cells #[.int .i64 (nv + 1)] 3)) := E6.out.1.alloc hs6 _
                      have X7 : Hid (BX 32 w7 Wr.heap.size #[.int .i64 (i : Int), .int .i64 2, .int .i64 3, .slice (some ⟨g, 0, none⟩) la1 c, .slice ba fb.length bc, .int .i64 (wakT l i), .int .i64 (opnT l i)]) := xA.grown oB (by decide) hg7
                      have E7 : Hid (Below Wr.heap.size Wr w7) := bA.trans ((Below.refl Wr.heap.size _).grown hg7 bA.size (fun j hj => (oB.lt j hj).1))
                      have A7 : Hid (w7.ownsRow Wr.heap.size 3 1 (.slice (some ⟨g, 0, none⟩) la1 c) ((List.range (k + 1)).map (sentAt l i)).length (((List.range (k + 1)).map (sentAt l i)).flatMap encI)) := oA.kept hg7 AP5.out.or
                      have AP7 : Hid (Apt (.slice (some ⟨g, 0, none⟩) la1 c) (.slice (some ⟨g2, 0, none⟩) (fb.length + 1) c2)) := (AP5.out.symm.grown (w := w6.alloc (.cells #[.int .i64 (nv + 1)] 3)) (by rcases hl7 with h | h; exact .inl h; exact .inr (by rw [h]; simp)) oA).symm
                      have B7 : Hid (w7.ownsRow Wr.heap.size 3 1 (.slice (some ⟨g2, 0, none⟩) (fb.length + 1) c2) ((List.range (k + 1)).map (gotT W l off i)).length (((List.range (k + 1)).map (gotT W l off i)).flatMap encI)) := by show World.ownsRow _ _ _ _ _ _ _; rw [HGA.out, HG2.out, flat_snoc, List.length_append]; exact ho7
                      clear oA oB xA bA ho7 hg7 hl7 y0 y1 y2 y3 y4 y5 y6 z0 z1 z2 z3 z4 z5 z6 d0
                      generalize fb.length + 1 = lb1 at *
                      have E8 : Hid (Below Wr.heap.size Wr (w7.setCell ⟨Wr.heap.size, 4, none⟩ (.slice (some ⟨g2, 0, none⟩) lb1 c2)) ∧ BX 32 (w7.setCell ⟨Wr.heap.size, 4, none⟩ (.slice (some ⟨g2, 0, none⟩) lb1 c2)) Wr.heap.size #[.int .i64 (i : Int), .int .i64 2, .int .i64 3, .slice (some ⟨g, 0, none⟩) la1 c, .slice (some ⟨g2, 0, none⟩) lb1 c2, .int .i64 (wakT l i), .int .i64 (opnT l i)] ∧ ((w7.setCell ⟨Wr.heap.size, 4, none⟩ (.slice (some ⟨g2, 0, none⟩) lb1 c2)).ownsRow Wr.heap.size 3 1 (.slice (some ⟨g, 0, none⟩) la1 c) ((List.range (k + 1)).map (sentAt l i)).length (((List.range (k + 1)).map (sentAt l i)).flatMap encI)) ∧ (w7.setCell ⟨Wr.heap.size, 4, none⟩ (.slice (some ⟨g2, 0, none⟩) lb1 c2)).ownsRow Wr.heap.size 3 1 (.slice (some ⟨g2, 0, none⟩) lb1 c2) ((List.range (k + 1)).map (gotT W l off i)).length (((List.range (k + 1)).map (gotT W l off i)).flatMap encI)) := ⟨E7.out.setCell (Nat.le_refl _) _, X7.out.set 4 _, X7.out.own A7.out (by decide), X7.out.own B7.out (by decide)⟩
                      obtain ⟨y0, y1, y2, y3, y4, y5, y6⟩ := X7.out.all7
                      obtain ⟨z0, z1, z2, z3, z4, z5, z6⟩ := X7.out.all7f
                      go_wp2_with fail
                      go_roundw
                      case rel => exact ⟨k + 1, _, _, by omega, by go_num, E8.out.2.1, E8.out.2.2.1, E8.out.2.2.2, AP7.out, E8.out.1⟩
                      case measure => simp [intOf]; omega
                    · have HG2 : Hid (gotT W l off i k = nv) := by show _ = _; rw [HGT.out, if_neg (fun h => hof (by rw [← h]; exact (Int.natCast_add p2 i).symm))]
                      have tof : (((p2 : Int) + (i : Int)) == off) = false := by simpa using hof
                      clear hof HGT
                      go_wp2_with (at_builtin; refine wpList_append_newL kI rfl _ _ rfl Wr.heap.size (.slice ba fb.length bc) fb rfl (own_below E6.out.2.2.2 (below_alloc _ _) (Nat.le_refl _)) _ nv rfl #[.int .i64 nv] rfl (0, 0) (heap_alloc_new _ _) (by simp [kI]; omega) (by unfold maxLen; omega) (by simp; omega) ?_)
                      intro g2 c2 w7 ho7 hg7 hl7
                      have oA : (w6.alloc (.cells #[.int .i64 nv] 3)).ownsRow Wr.heap.size 3 1 (.slice (some ⟨g, 0, none⟩) la1 c) ((List.range (k + 1)).map (sentAt l i)).length (((List.range (k + 1)).map (sentAt l i)).flatMap encI) := own_below E6.out.2.2.1 (below_alloc _ _) (Nat.le_refl _)
                      have oB : (w6.alloc (.cells #[.int .i64 nv] 3)).ownsRow Wr.heap.size 3 1 (.slice ba fb.length bc) fb.length (fb.flatMap encI) := own_below E6.out.2.2.2 (below_alloc _ _) (Nat.le_refl _)
                      have xA : BX 32 (w6.alloc (.cells #[.int .i64 nv] 3)) Wr.heap.size #[.int .i64 (i : Int), .int .i64 2, .int .i64 3, .slice (some ⟨g, 0, none⟩) la1 c, .slice ba fb.length bc, .int .i64 (wakT l i), .int .i64 (opnT l i)] := E6.out.2.1.below (below_alloc _ _) E6.out.2.1.lt
                      have bA : Below Wr.heap.size Wr (w6.alloc (.cells #[.int .i64 nv] 3)) := E6.out.1.alloc hs6 _
                      have X7 : Hid (BX 32 w7 Wr.heap.size #[.int .i64 (i : Int), .int .i64 2, .int .i64 3, .slice (some ⟨g, 0, none⟩) la1 c, .slice ba fb.length bc, .int .i64 (wakT l i), .int .i64 (opnT l i)]) := xA.grown oB (by decide) hg7
                      have E7 : Hid (Below Wr.heap.size Wr w7) := bA.trans ((Below.refl Wr.heap.size _).grown hg7 bA.size (fun j hj => (oB.lt j hj).1))
                      have A7 : Hid (w7.ownsRow Wr.heap.size 3 1 (.slice (some ⟨g, 0, none⟩) la1 c) ((List.range (k + 1)).map (sentAt l i)).length (((List.range (k + 1)).map (sentAt l i)).flatMap encI)) := oA.kept hg7 AP5.out.or
                      have AP7 : Hid (Apt (.slice (some ⟨g, 0, none⟩) la1 c) (.slice (some ⟨g2, 0, none⟩) (fb.length + 1) c2)) := (AP5.out.symm.grown (w := w6.alloc (.cells #[.int .i64 nv] 3)) (by rcases hl7 with h | h; exact .inl h; exact .inr (by rw [h]; simp)) oA).symm
                      have B7 : Hid (w7.ownsRow Wr.heap.size 3 1 (.slice (some ⟨g2, 0, none⟩) (fb.length + 1) c2) ((List.range (k + 1)).map (gotT W l off i)).length (((List.range (k + 1)).map (gotT W l off i)).flatMap encI)) := by show World.ownsRow _ _ _ _ _ _ _; rw [HGA.out, HG2.out, flat_snoc, List.length_append]; exact ho7
                      clear oA oB xA bA ho7 hg7 hl7 y0 y1 y2 y3 y4 y5 y6 z0 z1 z2 z3 z4 z5 z6 d0
                      generalize fb.length + 1 = lb1 at *
                      have E8 : Hid (Below Wr.heap.size Wr (w7.setCell ⟨Wr.heap.size, 4, none⟩ (.slice (some ⟨g2, 0, none⟩) lb1 c2)) ∧ BX 32 (w7.setCell ⟨Wr.heap.size, 4, none⟩ (.slice (some ⟨g2, 0, none⟩) lb1 c2)) Wr.heap.size #[.int .i64 (i : Int), .int .i64 2, .int .i64 3, .slice (some ⟨g, 0, none⟩) la1 c, .slice (some ⟨g2, 0, none⟩) lb1 c2, .int .i64 (wakT l i), .int .i64 (opnT l i)] ∧ ((w7.setCell ⟨Wr.heap.size, 4, none⟩ (.slice (some ⟨g2, 0, none⟩) lb1 c2)).ownsRow Wr.heap.size 3 1 (.slice (some ⟨g, 0, none⟩) la1 c) ((List.range (k + 1)).map (sentAt l i)).length (((List.range (k + 1)).map (sentAt l i)).flatMap encI)) ∧ (w7.setCell ⟨Wr.heap.size, 4, none⟩ (.slice (some ⟨g2, 0, none⟩) lb1 c2)).ownsRow Wr.heap.size 3 1 (.slice (some ⟨g2, 0, none⟩) lb1 c2) ((List.range (k + 1)).map (gotT W l off i)).length (((List.range (k + 1)).map (gotT W l off i)).flatMap encI)) := ⟨E7.out.setCell (Nat.le_refl _) _, X7.out.set 4 _, X7.out.own A7.out (by decide), X7.out.own B7.out (by decide)⟩
                      obtain ⟨y0, y1, y2, y3, y4, y5, y6⟩ := X7.out.all7
                      obtain ⟨z0, z1, z2, z3, z4, z5, z6⟩ := X7.out.all7f
                      go_wp2_with fail
                      go_roundw
                      case rel => exact ⟨k + 1, _, _, by omega, by go_num, E8.out.2.1, E8.out.2.2.1, E8.out.2.2.2, AP7.out, E8.out.1⟩
                      case measure => simp [intOf]; omega
                  · have ek : k = W := by omega
                    have SA : Hid (InR wr va (repT W l off i).sent) := by show InR _ _ _; have h := (RowK.own encI_len A4.out : InR wr va _); rwa [ek] at h
                    have GA : Hid (InR wr vb (repT W l off i).got) := by show InR _ _ _; have h := (RowK.own encI_len B4.out : InR wr vb _); rwa [ek] at h
                    obtain ⟨aa, ac, hae⟩ := SA.out.shape
                    obtain ⟨ba, bc, hbe⟩ := GA.out.shape
                    generalize (repT W l off i).sent.length = n1 at hae
                    generalize (repT W l off i).got.length = n2 at hbe
                    subst hae hbe
                    have QX4 : Hid (BX 24 wr qb #[.int .i64 (W : Int), .int .i64 2, .int .i64 3, vr]) := QX.out.below E4.out (by have := QX.out.lt; omega)
                    have OR4 : Hid (OwnR wr V1.heap.size vr (repsT W l o out off t)) := OR.out.below E4.out (Nat.le_refl _)
                    obtain ⟨ra, rc, hre⟩ := OR4.out.shape
                    have CH : Hid (Calls Try.prog 13 #[.agg #[.int .i64 (W : Int), .int .i64 2, .int .i64 3, vr], .agg #[.int .i64 (i : Int), .int .i64 2, .int .i64 3, .slice aa n1 ac, .slice ba n2 bc, .int .i64 (wakT l i), .int .i64 (opnT l i)]] wr fun e w' => ∃ v', e = .returned (.tuple #[.agg #[.int .i64 (W : Int), .int .i64 2, .int .i64 3, v'], .int .i64 0]) ∧ OwnR w' wr.heap.size v' (repsT W l o out off (t + 1)) ∧ Below wr.heap.size wr w') := by
                      have h := bHear_any (brdT W l o out off t) (repT W l off i) vr _ _ wr OR4.out.reads SA.out GA.out (brdT_B (by omega)) (repT_B (by omega))
                      rw [HHE.out.1, HHE.out.2] at h
                      exact h
                    generalize (repsT W l o out off t).length = rn at hre
                    subst hre
                    obtain ⟨y0, y1, y2, y3, y4, y5, y6⟩ := X4.out.all7
                    obtain ⟨m0, m1, m2, m3⟩ := QX4.out.all4
                    clear ek SA GA A4 B4 AP
                    go_wp2_with fail
                    refine CH.out.mono ?_
                    rintro e w5 ⟨v5, rfl, ho5, hb5⟩
                    obtain ⟨xa, xc, hxe⟩ := ho5.shape
                    have hs5 := hb5.size
                    have bA := hb5.alloc hs5 (.cells #[.int .i64 (W : Int), .int .i64 2, .int .i64 3, v5] 24)
                    have E7 : Hid (Below Wr.heap.size Wr (w5.alloc (.cells #[.int .i64 (W : Int), .int .i64 2, .int .i64 3, v5] 24)) ∧ BX 24 (w5.alloc (.cells #[.int .i64 (W : Int), .int .i64 2, .int .i64 3, v5] 24)) w5.heap.size #[.int .i64 (W : Int), .int .i64 2, .int .i64 3, v5] ∧ BX 24 (w5.alloc (.cells #[.int .i64 (W : Int), .int .i64 2, .int .i64 3, v5] 24)) qb #[.int .i64 (W : Int), .int .i64 2, .int .i64 3, .slice ra rn rc] ∧ OwnR (w5.alloc (.cells #[.int .i64 (W : Int), .int .i64 2, .int .i64 3, v5] 24)) V1.heap.size v5 (repsT W l o out off (t + 1))) := ⟨E4.out.trans (bA.mono hs4), BX.new _ _ _, QX4.out.below bA QX4.out.lt, (ho5.below (below_alloc _ _) (Nat.le_refl _)).lower (by omega)⟩
                    generalize (repsT W l o out off (t + 1)).length = xn at hxe
                    subst hxe
                    clear ho5 hb5 bA CH y0 y1 y2 y3 y4 y5 y6 m0 m1 m2 m3
                    go_upto_region 40 with fail
                    generalize w5.alloc (.cells #[.int .i64 (W : Int), .int .i64 2, .int .i64 3, .slice xa xn xc] 24) = w6 at *
                    generalize w5.heap.size = b6 at *
                    obtain ⟨e6, x6, y6, o6⟩ := E7.out
                    obtain ⟨m0, m1, m2, m3⟩ := x6.all4
                    obtain ⟨n0, n1', n2', n3⟩ := y6.all4
                    obtain ⟨f0, f1, f2, f3⟩ := y6.all4f
                    have E8 : Hid (BX 24 (put4 w6 qb (.int .i64 (W : Int)) (.int .i64 2) (.int .i64 3) (.slice xa xn xc)) qb #[.int .i64 (W : Int), .int .i64 2, .int .i64 3, .slice xa xn xc] ∧ OwnR (put4 w6 qb (.int .i64 (W : Int)) (.int .i64 2) (.int .i64 3) (.slice xa xn xc)) V1.heap.size (.slice xa xn xc) (repsT W l o out off (t + 1)) ∧ Kept (fun q => q = qb) V1 (put4 w6 qb (.int .i64 (W : Int)) (.int .i64 2) (.int .i64 3) (.slice xa xn xc))) := ⟨BX.put4 y6, o6.put4 y6 (by decide) (by decide), (KP.out.trans (Kept.of e6)).trans (kept_put4 w6 qb _ _ _ _)⟩
                    clear e6 x6 y6 o6 E7
                    unfold put4 at E8
                    go_wp2_with fail
                    go_roundw
                    case rel => exact ⟨t + 1, _, by omega, by go_num, E8.out.1, E8.out.2.1, E8.out.2.2⟩
                    case measure => simp [intOf]; omega
              · have w0 : wakT l i = 0 := by unfold wakT; rw [List.getElem?_eq_none (by omega)]
                have p0 : opnT l i = 0 := by unfold opnT; rw [List.getElem?_eq_none (by omega)]
                generalize Wr.alloc (.cells #[.int .i64 (i : Int), .int .i64 2, .int .i64 3, .slice none 0 0, .slice none 0 0, .int .i64 0, .int .i64 0] 32) = Y at *
                have BY : Hid (Below Wr.heap.size Wr Y) := E0.out.1
                have XY : Hid (BX 32 Y Wr.heap.size #[.int .i64 (i : Int), .int .i64 2, .int .i64 3, .slice none 0 0, .slice none 0 0, .int .i64 (wakT l i), .int .i64 (opnT l i)]) := by show BX _ _ _ _; rw [w0, p0]; exact E0.out.2
                clear E0 w0 p0
                go_upto_region 31 with fail
                have hq7 := XY.out.lt
                have hsY := BY.out.size
                go_wp2_with fail
                go_loopw [23] (fun j wr => ∃ (k : Nat) (va vb : Value), k ≤ W ∧ j = .int .i64 k ∧ BX 32 wr Wr.heap.size #[.int .i64 (i : Int), .int .i64 2, .int .i64 3, va, vb, .int .i64 (wakT l i), .int .i64 (opnT l i)] ∧ (wr.ownsRow Wr.heap.size 3 1 va ((List.range k).map (sentAt l i)).length (((List.range k).map (sentAt l i)).flatMap encI)) ∧ (wr.ownsRow Wr.heap.size 3 1 vb ((List.range k).map (gotT W l off i)).length (((List.range k).map (gotT W l off i)).flatMap encI)) ∧ Apt va vb ∧ Below Wr.heap.size Wr wr) (fun j _ => W - (intOf j).toNat)
                case atStart => exact ⟨0, _, _, by omega, rfl, XY.out, World.ownsRow_nil _ _ _ _, World.ownsRow_nil _ _ _ _, Apt.nil _, BY.out⟩
                case round =>
                  obtain ⟨k, va, vb, hk, rfl, hx4, ha4, hb4, hapt, hbel4⟩ := hrel
                  have X4 : Hid (BX 32 wr Wr.heap.size #[.int .i64 (i : Int), .int .i64 2, .int .i64 3, va, vb, .int .i64 (wakT l i), .int .i64 (opnT l i)]) := hx4
                  have A4 : Hid (wr.ownsRow Wr.heap.size 3 1 va ((List.range k).map (sentAt l i)).length (((List.range k).map (sentAt l i)).flatMap encI)) := ha4
                  have B4 : Hid (wr.ownsRow Wr.heap.size 3 1 vb ((List.range k).map (gotT W l off i)).length (((List.range k).map (gotT W l off i)).flatMap encI)) := hb4
                  have AP : Hid (Apt va vb) := hapt
                  have E4 : Hid (Below Wr.heap.size Wr wr) := hbel4
                  have hs4 := hbel4.size
                  clear hx4 ha4 hb4 hapt hbel4
                  by_cases hlk : k < W
                  · obtain ⟨p, hp⟩ : ∃ p, p = i * W := ⟨_, rfl⟩
                    have hpi : (i : Int) * (W : Int) = (p : Int) := by rw [hp]; exact (Int.natCast_mul i W).symm
                    obtain ⟨p2, hp2⟩ : ∃ p2, p2 = k * W := ⟨_, rfl⟩
                    have hpk : (k : Int) * (W : Int) = (p2 : Int) := by rw [hp2]; exact (Int.natCast_mul k W).symm
                    have l1 : p + k < S := by rw [hp, HS.out]; exact pos_lt hi hlk
                    have l2 : p2 + i < S := by rw [hp2, HS.out]; exact pos_lt hlk hi
                    have HC : Hid (∀ X, Below Wr.heap.size Wr X → X.cell? ⟨w.heap.size + 1, p + k, none⟩ = some (.int .i64 (sentAt l i k)) ∧ X.cell? ⟨w.heap.size + 1, p2 + i, none⟩ = some (.int .i64 (sentAt l k i))) := fun X hX => by
                      obtain ⟨sb, soff, scap, e1, _, _, slt, hvs⟩ := InR.at HIS.out (by rw [matF_len, ← HS.out]; omega)
                      injection e1 with e1 _ _
                      injection e1 with e1
                      injection e1 with e4 e5
                      subst e4 e5
                      have h1 := hvs (p + k) _ (by rw [hp, HS.out]; exact matF_at hi hlk)
                      have h2 := hvs (p2 + i) _ (by rw [hp2, HS.out]; exact matF_at hlk hi)
                      rw [Nat.zero_add] at h1 h2
                      exact ⟨(hX.cell (p := ⟨w.heap.size + 1, p + k, none⟩) slt).trans h1, (hX.cell (p := ⟨w.heap.size + 1, p2 + i, none⟩) slt).trans h2⟩
                    have HGT : Hid (gotT W l off i k = if ((p2 + i : Nat) : Int) = off then sentAt l k i + 1 else sentAt l k i) := by show _ = _; rw [hp2]; rfl
                    have HSA : Hid ((List.range (k + 1)).map (sentAt l i) = (List.range k).map (sentAt l i) ++ [sentAt l i k]) := by show _ = _; rw [List.range_succ, List.map_append]; rfl
                    have HGA : Hid ((List.range (k + 1)).map (gotT W l off i) = (List.range k).map (gotT W l off i) ++ [gotT W l off i k]) := by show _ = _; rw [List.range_succ, List.map_append]; rfl
                    have hnb := sentAt_bd l k i
                    clear hp hp2
                    have hfa : ((List.range k).map (sentAt l i)).length ≤ k := by simp
                    have hfb : ((List.range k).map (gotT W l off i)).length ≤ k := by simp
                    generalize hfae : (List.range k).map (sentAt l i) = fa at *
                    generalize hfbe : (List.range k).map (gotT W l off i) = fb at *
                    clear hfae hfbe
                    generalize sentAt l i k = sv at *
                    generalize sentAt l k i = nv at *
                    obtain ⟨aa, ac, rfl⟩ := (RowK.own encI_len A4.out : InR wr va fa).shape
                    obtain ⟨ba, bc, rfl⟩ := (RowK.own encI_len B4.out : InR wr vb fb).shape
                    go_upto_region 34 with fail
                    have q1 : IntKind.i64.wrap (p : Int) = (p : Int) := by rw [IntKind.wrap_i64]; omega
                    have q2 : IntKind.i64.wrap ((p : Int) + (k : Int)) = (p : Int) + (k : Int) := by rw [IntKind.wrap_i64]; omega
                    have q3 : ((p : Int) + (k : Int)).toNat = p + k := by omega
                    have q4 : (0 : Int) ≤ (p : Int) + (k : Int) := by omega
                    have q5 : (p : Int) + (k : Int) < (S : Int) := by omega
                    have bd : Below Wr.heap.size Wr wr.drew := E4.out.drew
                    have xd : BX 32 wr.drew Wr.heap.size #[.int .i64 (i : Int), .int .i64 2, .int .i64 3, .slice aa fa.length ac, .slice ba fb.length bc, .int .i64 (wakT l i), .int .i64 (opnT l i)] := X4.out.drew
                    have HSD : Hid (wr.drew.cell? ⟨Wr.heap.size, 3, none⟩ = some (.slice aa fa.length ac) ∧ wr.drew.cell? ⟨w.heap.size + 1, p + k, none⟩ = some (.int .i64 sv)) := ⟨xd.all7.2.2.2.1, (HC.out _ bd).1⟩
                    refine region_lastF (S := fun V => V.cell? ⟨Wr.heap.size, 3, none⟩ = some (.slice aa fa.length ac) ∧ V.cell? ⟨w.heap.size + 1, p + k, none⟩ = some (.int .i64 sv)) (by kernel_rfl) rfl (by kernel_rfl) (by kernel_rfl) ?_
                    simp only [List.pop_toArray, List.dropLast_cons_cons, List.dropLast_singleton, List.size_toArray, List.length_cons, List.length_nil, Nat.reduceAdd]
                    refine takeH (i := 0) (v := .pointer (some ⟨Wr.heap.size, 3, none⟩)) (d := 155) rfl rfl (by kernel_rfl) (by kernel_rfl) (by kernel_rfl) (fun _ _ _ h => h) (by rfl) (fun V hV => by obtain ⟨v1, v2⟩ := hV; go_simp) HSD.out ?_
                    simp only [Act.put, List.setIfInBounds_toArray, List.set_cons_zero, List.set_cons_succ]
                    refine takeH (i := 1) (v := .slice aa fa.length ac) (d := 156) rfl rfl (by kernel_rfl) (by kernel_rfl) (by kernel_rfl) (fun _ _ _ h => h) (by rfl) (fun V hV => by obtain ⟨v1, v2⟩ := hV; go_simp) HSD.out ?_
                    simp only [Act.put, List.setIfInBounds_toArray, List.set_cons_zero, List.set_cons_succ]
                    refine takeH (i := 2) (v := .slice (some ⟨w.heap.size + 1, 0, none⟩) S S) (d := 157) rfl rfl (by kernel_rfl) (by kernel_rfl) (by kernel_rfl) (fun _ _ _ h => h) (by rfl) (fun V hV => by obtain ⟨v1, v2⟩ := hV; go_simp) HSD.out ?_
                    simp only [Act.put, List.setIfInBounds_toArray, List.set_cons_zero, List.set_cons_succ]
                    refine takeH (i := 3) (v := .int .i64 (i : Int)) (d := 158) rfl rfl (by kernel_rfl) (by kernel_rfl) (by kernel_rfl) (fun _ _ _ h => h) (by rfl) (fun V hV => by obtain ⟨v1, v2⟩ := hV; go_simp) HSD.out ?_
                    simp only [Act.put, List.setIfInBounds_toArray, List.set_cons_zero, List.set_cons_succ]
                    refine takeH (i := 4) (v := .int .i64 (W : Int)) (d := 159) rfl rfl (by kernel_rfl) (by kernel_rfl) (by kernel_rfl) (fun _ _ _ h => h) (by rfl) (fun V hV => by obtain ⟨v1, v2⟩ := hV; go_simp) HSD.out ?_
                    simp only [Act.put, List.setIfInBounds_toArray, List.set_cons_zero, List.set_cons_succ]
                    refine takeH (i := 5) (v := .int .i64 (p : Int)) (d := 160) rfl rfl (by kernel_rfl) (by kernel_rfl) (by kernel_rfl) (fun _ _ _ h => h) (by rfl) (fun V hV => by obtain ⟨v1, v2⟩ := hV; go_simp) HSD.out ?_
                    simp only [Act.put, List.setIfInBounds_toArray, List.set_cons_zero, List.set_cons_succ]
                    refine takeH (i := 6) (v := .int .i64 (k : Int)) (d := 161) rfl rfl (by kernel_rfl) (by kernel_rfl) (by kernel_rfl) (fun _ _ _ h => h) (by rfl) (fun V hV => by obtain ⟨v1, v2⟩ := hV; go_simp) HSD.out ?_
                    simp only [Act.put, List.setIfInBounds_toArray, List.set_cons_zero, List.set_cons_succ]
                    refine takeH (i := 7) (v := .int .i64 ((p : Int) + (k : Int))) (d := 162) rfl rfl (by kernel_rfl) (by kernel_rfl) (by kernel_rfl) (fun _ _ _ h => h) (by rfl) (fun V hV => by obtain ⟨v1, v2⟩ := hV; go_simp) HSD.out ?_
                    simp only [Act.put, List.setIfInBounds_toArray, List.set_cons_zero, List.set_cons_succ]
                    refine takeH (i := 8) (v := .pointer (some ⟨w.heap.size + 1, p + k, none⟩)) (d := 163) rfl rfl (by kernel_rfl) (by kernel_rfl) (by kernel_rfl) (fun _ _ _ h => h) (by rfl) (fun V hV => by obtain ⟨v1, v2⟩ := hV; go_simp) HSD.out ?_
                    simp only [Act.put, List.setIfInBounds_toArray, List.set_cons_zero, List.set_cons_succ]
                    refine takeH (i := 9) (v := .int .i64 sv) (d := 164) rfl rfl (by kernel_rfl) (by kernel_rfl) (by kernel_rfl) (fun _ _ _ h => h) (by rfl) (fun V hV => by obtain ⟨v1, v2⟩ := hV; go_simp) HSD.out ?_
                    simp only [Act.put, List.setIfInBounds_toArray, List.set_cons_zero, List.set_cons_succ]
                    have bA : Below Wr.heap.size Wr (wr.drew.alloc (.cells #[.int .i64 sv] 3)) := bd.alloc bd.size _
                    have xA : BX 32 (wr.drew.alloc (.cells #[.int .i64 sv] 3)) Wr.heap.size #[.int .i64 (i : Int), .int .i64 2, .int .i64 3, .slice aa fa.length ac, .slice ba fb.length bc, .int .i64 (wakT l i), .int .i64 (opnT l i)] := xd.below (below_alloc _ _) xd.lt
                    refine oneH (i := 10) rfl (by kernel_rfl) rfl (op_run (d := 165) (v' := .slice (some ⟨wr.heap.size, 0, none⟩) 1 1) (w' := wr.drew.alloc (.cells #[.int .i64 sv] 3)) rfl (by go_simp) ⟨⟨xA.all7.2.2.2.1, (HC.out _ bA).1⟩, ?_⟩)
                    simp only [Act.put, List.setIfInBounds_toArray, List.set_cons_zero, List.set_cons_succ]
                    have oA : (wr.drew.alloc (.cells #[.int .i64 sv] 3)).ownsRow Wr.heap.size 3 1 (.slice aa fa.length ac) fa.length (fa.flatMap encI) := own_below A4.out.drew (below_alloc _ _) (Nat.le_refl _)
                    have oB : (wr.drew.alloc (.cells #[.int .i64 sv] 3)).ownsRow Wr.heap.size 3 1 (.slice ba fb.length bc) fb.length (fb.flatMap encI) := own_below B4.out.drew (below_alloc _ _) (Nat.le_refl _)
                    obtain ⟨g, c, w5, hrun, ho5, hg5, hl5⟩ := run_append_newL kI (w := wr.drew.alloc (.cells #[.int .i64 sv] 3)) 30 Wr.heap.size (.slice aa fa.length ac) fa oA wr.heap.size sv #[.int .i64 sv] rfl (0, 0) (heap_alloc_new _ _) (by simp [kI]; omega) (by unfold maxLen; omega) bA.size
                    have X5 : Hid (BX 32 w5 Wr.heap.size #[.int .i64 (i : Int), .int .i64 2, .int .i64 3, .slice aa fa.length ac, .slice ba fb.length bc, .int .i64 (wakT l i), .int .i64 (opnT l i)]) := xA.grown oA (by decide) hg5
                    have E5 : Hid (Below Wr.heap.size Wr w5) := bA.trans ((Below.refl Wr.heap.size _).grown hg5 bA.size (fun j hj => (oA.lt j hj).1))
                    have B5 : Hid (w5.ownsRow Wr.heap.size 3 1 (.slice ba fb.length bc) fb.length (fb.flatMap encI)) := oB.kept hg5 AP.out.symm.or
                    have AP5 : Hid (Apt (.slice (some ⟨g, 0, none⟩) (fa.length + 1) c) (.slice ba fb.length bc)) := AP.out.grown hl5 oB
                    have A5 : Hid (w5.ownsRow Wr.heap.size 3 1 (.slice (some ⟨g, 0, none⟩) (fa.length + 1) c) ((List.range (k + 1)).map (sentAt l i)).length (((List.range (k + 1)).map (sentAt l i)).flatMap encI)) := by show World.ownsRow _ _ _ _ _ _ _; rw [HSA.out]; exact ho5
                    refine oneH (i := 11) rfl (by kernel_rfl) rfl (call_append (d := 166) (s := .tmp 156) (x := .tmp 165) (t := 30) rfl rfl (v := .slice aa fa.length ac) (v2 := .slice (some ⟨wr.heap.size, 0, none⟩) 1 1) (by simp [Act.eval]) (by simp [Act.eval]) hrun ⟨⟨X5.out.all7.2.2.2.1, (HC.out _ E5.out).1⟩, ?_⟩)
                    simp only [Act.put, List.setIfInBounds_toArray, List.set_cons_zero, List.set_cons_succ]
                    refine takeH (i := 12) (v := .pointer (some ⟨Wr.heap.size, 3, none⟩)) (d := 167) rfl rfl (by kernel_rfl) (by kernel_rfl) (by kernel_rfl) (fun _ _ _ h => h) (by rfl) (fun V hV => by obtain ⟨v1, v2⟩ := hV; go_simp) ⟨X5.out.all7.2.2.2.1, (HC.out _ E5.out).1⟩ ?_
                    simp only [Act.put, List.setIfInBounds_toArray, List.set_cons_zero, List.set_cons_succ]
                    refine wpAnyH_done (by kernel_rfl) ?_ _
                    generalize hla : fa.length + 1 = la1 at *
                    clear hla bA xA oA oB hrun ho5 hg5 hl5 bd xd HSD q1 q2 q3 q4 q5
                    have E6 : Hid (Below Wr.heap.size Wr (w5.setCell ⟨Wr.heap.size, 3, none⟩ (.slice (some ⟨g, 0, none⟩) la1 c)) ∧ BX 32 (w5.setCell ⟨Wr.heap.size, 3, none⟩ (.slice (some ⟨g, 0, none⟩) la1 c)) Wr.heap.size #[.int .i64 (i : Int), .int .i64 2, .int .i64 3, .slice (some ⟨g, 0, none⟩) la1 c, .slice ba fb.length bc, .int .i64 (wakT l i), .int .i64 (opnT l i)] ∧ ((w5.setCell ⟨Wr.heap.size, 3, none⟩ (.slice (some ⟨g, 0, none⟩) la1 c)).ownsRow Wr.heap.size 3 1 (.slice (some ⟨g, 0, none⟩) la1 c) ((List.range (k + 1)).map (sentAt l i)).length (((List.range (k + 1)).map (sentAt l i)).flatMap encI)) ∧ (w5.setCell ⟨Wr.heap.size, 3, none⟩ (.slice (some ⟨g, 0, none⟩) la1 c)).ownsRow Wr.heap.size 3 1 (.slice ba fb.length bc) fb.length (fb.flatMap encI)) := ⟨E5.out.setCell (Nat.le_refl _) _, X5.out.set 3 _, X5.out.own A5.out (by decide), X5.out.own B5.out (by decide)⟩
                    obtain ⟨y0, y1, y2, y3, y4, y5, y6⟩ := X5.out.all7
                    obtain ⟨z0, z1, z2, z3, z4, z5, z6⟩ := X5.out.all7f
                    show Oper.wp _ _ _ _ _ _
                    go_upto_region 35 with fail
                    clear y0 y1 y2 y3 y4 y5 y6 z0 z1 z2 z3 z4 z5 z6 X5 A5 B5 E5 A4 B4 X4 E4
                    generalize w5.setCell ⟨Wr.heap.size, 3, none⟩ (.slice (some ⟨g, 0, none⟩) la1 c) = w6 at *
                    have d0 := (HC.out _ E6.out.1).2
                    obtain ⟨y0, y1, y2, y3, y4, y5, y6⟩ := E6.out.2.1.all7
                    obtain ⟨z0, z1, z2, z3, z4, z5, z6⟩ := E6.out.2.1.all7f
                    have hs6 := E6.out.1.size
                    by_cases hof : ((p2 : Int) + (i : Int)) = off
                    · have HG2 : Hid (gotT W l off i k = nv + 1) := by show _ = _; rw [HGT.out, if_pos (by rw [← hof]; exact Int.natCast_add p2 i)]
                      have tof : (((p2 : Int) + (i : Int)) == off) = true := by simpa using hof
                      clear hof HGT
                      go_wp2_with (at_builtin; refine wpList_append_newL kI rfl _ _ rfl Wr.heap.size (.slice ba fb.length bc) fb rfl (own_below E6.out.2.2.2 (below_alloc _ _) (Nat.le_refl _)) _ (nv + 1) rfl #[.int .i64 (nv + 1)] rfl (0, 0) (heap_alloc_new _ _) (by simp [kI]; omega) (by unfold maxLen; omega) (by simp; omega) ?_)
                      intro g2 c2 w7 ho7 hg7 hl7
                      have oA : (w6.alloc (.cells #[.int .i64 (nv + 1)] 3)).ownsRow Wr.heap.size 3 1 (.slice (some ⟨g, 0, none⟩) la1 c) ((List.range (k + 1)).map (sentAt l i)).length (((List.range (k + 1)).map (sentAt l i)).flatMap encI) := own_below E6.out.2.2.1 (below_alloc _ _) (Nat.le_refl _)
                      have oB : (w6.alloc (.cells #[.int .i64 (nv + 1)] 3)).ownsRow Wr.heap.size 3 1 (.slice ba fb.length bc) fb.length (fb.flatMap encI) := own_below E6.out.2.2.2 (below_alloc _ _) (Nat.le_refl _)
                      have xA : BX 32 (w6.alloc (.cells #[.int .i64 (nv + 1)] 3)) Wr.heap.size #[.int .i64 (i : Int), .int .i64 2, .int .i64 3, .slice (some ⟨g, 0, none⟩) la1 c, .slice ba fb.length bc, .int .i64 (wakT l i), .int .i64 (opnT l i)] := E6.out.2.1.below (below_alloc _ _) E6.out.2.1.lt
                      have bA : Below Wr.heap.size Wr (w6.alloc (.cells #[.int .i64 (nv + 1)] 3)) := E6.out.1.alloc hs6 _
                      have X7 : Hid (BX 32 w7 Wr.heap.size #[.int .i64 (i : Int), .int .i64 2, .int .i64 3, .slice (some ⟨g, 0, none⟩) la1 c, .slice ba fb.length bc, .int .i64 (wakT l i), .int .i64 (opnT l i)]) := xA.grown oB (by decide) hg7
                      have E7 : Hid (Below Wr.heap.size Wr w7) := bA.trans ((Below.refl Wr.heap.size _).grown hg7 bA.size (fun j hj => (oB.lt j hj).1))
                      have A7 : Hid (w7.ownsRow Wr.heap.size 3 1 (.slice (some ⟨g, 0, none⟩) la1 c) ((List.range (k + 1)).map (sentAt l i)).length (((List.range (k + 1)).map (sentAt l i)).flatMap encI)) := oA.kept hg7 AP5.out.or
                      have AP7 : Hid (Apt (.slice (some ⟨g, 0, none⟩) la1 c) (.slice (some ⟨g2, 0, none⟩) (fb.length + 1) c2)) := (AP5.out.symm.grown (w := w6.alloc (.cells #[.int .i64 (nv + 1)] 3)) (by rcases hl7 with h | h; exact .inl h; exact .inr (by rw [h]; simp)) oA).symm
                      have B7 : Hid (w7.ownsRow Wr.heap.size 3 1 (.slice (some ⟨g2, 0, none⟩) (fb.length + 1) c2) ((List.range (k + 1)).map (gotT W l off i)).length (((List.range (k + 1)).map (gotT W l off i)).flatMap encI)) := by show World.ownsRow _ _ _ _ _ _ _; rw [HGA.out, HG2.out, flat_snoc, List.length_append]; exact ho7
                      clear oA oB xA bA ho7 hg7 hl7 y0 y1 y2 y3 y4 y5 y6 z0 z1 z2 z3 z4 z5 z6 d0
                      generalize fb.length + 1 = lb1 at *
                      have E8 : Hid (Below Wr.heap.size Wr (w7.setCell ⟨Wr.heap.size, 4, none⟩ (.slice (some ⟨g2, 0, none⟩) lb1 c2)) ∧ BX 32 (w7.setCell ⟨Wr.heap.size, 4, none⟩ (.slice (some ⟨g2, 0, none⟩) lb1 c2)) Wr.heap.size #[.int .i64 (i : Int), .int .i64 2, .int .i64 3, .slice (some ⟨g, 0, none⟩) la1 c, .slice (some ⟨g2, 0, none⟩) lb1 c2, .int .i64 (wakT l i), .int .i64 (opnT l i)] ∧ ((w7.setCell ⟨Wr.heap.size, 4, none⟩ (.slice (some ⟨g2, 0, none⟩) lb1 c2)).ownsRow Wr.heap.size 3 1 (.slice (some ⟨g, 0, none⟩) la1 c) ((List.range (k + 1)).map (sentAt l i)).length (((List.range (k + 1)).map (sentAt l i)).flatMap encI)) ∧ (w7.setCell ⟨Wr.heap.size, 4, none⟩ (.slice (some ⟨g2, 0, none⟩) lb1 c2)).ownsRow Wr.heap.size 3 1 (.slice (some ⟨g2, 0, none⟩) lb1 c2) ((List.range (k + 1)).map (gotT W l off i)).length (((List.range (k + 1)).map (gotT W l off i)).flatMap encI)) := ⟨E7.out.setCell (Nat.le_refl _) _, X7.out.set 4 _, X7.out.own A7.out (by decide), X7.out.own B7.out (by decide)⟩
                      obtain ⟨y0, y1, y2, y3, y4, y5, y6⟩ := X7.out.all7
                      obtain ⟨z0, z1, z2, z3, z4, z5, z6⟩ := X7.out.all7f
                      go_wp2_with fail
                      go_roundw
                      case rel => exact ⟨k + 1, _, _, by omega, by go_num, E8.out.2.1, E8.out.2.2.1, E8.out.2.2.2, AP7.out, E8.out.1⟩
                      case measure => simp [intOf]; omega
                    · have HG2 : Hid (gotT W l off i k = nv) := by show _ = _; rw [HGT.out, if_neg (fun h => hof (by rw [← h]; exact (Int.natCast_add p2 i).symm))]
                      have tof : (((p2 : Int) + (i : Int)) == off) = false := by simpa using hof
                      clear hof HGT
                      go_wp2_with (at_builtin; refine wpList_append_newL kI rfl _ _ rfl Wr.heap.size (.slice ba fb.length bc) fb rfl (own_below E6.out.2.2.2 (below_alloc _ _) (Nat.le_refl _)) _ nv rfl #[.int .i64 nv] rfl (0, 0) (heap_alloc_new _ _) (by simp [kI]; omega) (by unfold maxLen; omega) (by simp; omega) ?_)
                      intro g2 c2 w7 ho7 hg7 hl7
                      have oA : (w6.alloc (.cells #[.int .i64 nv] 3)).ownsRow Wr.heap.size 3 1 (.slice (some ⟨g, 0, none⟩) la1 c) ((List.range (k + 1)).map (sentAt l i)).length (((List.range (k + 1)).map (sentAt l i)).flatMap encI) := own_below E6.out.2.2.1 (below_alloc _ _) (Nat.le_refl _)
                      have oB : (w6.alloc (.cells #[.int .i64 nv] 3)).ownsRow Wr.heap.size 3 1 (.slice ba fb.length bc) fb.length (fb.flatMap encI) := own_below E6.out.2.2.2 (below_alloc _ _) (Nat.le_refl _)
                      have xA : BX 32 (w6.alloc (.cells #[.int .i64 nv] 3)) Wr.heap.size #[.int .i64 (i : Int), .int .i64 2, .int .i64 3, .slice (some ⟨g, 0, none⟩) la1 c, .slice ba fb.length bc, .int .i64 (wakT l i), .int .i64 (opnT l i)] := E6.out.2.1.below (below_alloc _ _) E6.out.2.1.lt
                      have bA : Below Wr.heap.size Wr (w6.alloc (.cells #[.int .i64 nv] 3)) := E6.out.1.alloc hs6 _
                      have X7 : Hid (BX 32 w7 Wr.heap.size #[.int .i64 (i : Int), .int .i64 2, .int .i64 3, .slice (some ⟨g, 0, none⟩) la1 c, .slice ba fb.length bc, .int .i64 (wakT l i), .int .i64 (opnT l i)]) := xA.grown oB (by decide) hg7
                      have E7 : Hid (Below Wr.heap.size Wr w7) := bA.trans ((Below.refl Wr.heap.size _).grown hg7 bA.size (fun j hj => (oB.lt j hj).1))
                      have A7 : Hid (w7.ownsRow Wr.heap.size 3 1 (.slice (some ⟨g, 0, none⟩) la1 c) ((List.range (k + 1)).map (sentAt l i)).length (((List.range (k + 1)).map (sentAt l i)).flatMap encI)) := oA.kept hg7 AP5.out.or
                      have AP7 : Hid (Apt (.slice (some ⟨g, 0, none⟩) la1 c) (.slice (some ⟨g2, 0, none⟩) (fb.length + 1) c2)) := (AP5.out.symm.grown (w := w6.alloc (.cells #[.int .i64 nv] 3)) (by rcases hl7 with h | h; exact .inl h; exact .inr (by rw [h]; simp)) oA).symm
                      have B7 : Hid (w7.ownsRow Wr.heap.size 3 1 (.slice (some ⟨g2, 0, none⟩) (fb.length + 1) c2) ((List.range (k + 1)).map (gotT W l off i)).length (((List.range (k + 1)).map (gotT W l off i)).flatMap encI)) := by show World.ownsRow _ _ _ _ _ _ _; rw [HGA.out, HG2.out, flat_snoc, List.length_append]; exact ho7
                      clear oA oB xA bA ho7 hg7 hl7 y0 y1 y2 y3 y4 y5 y6 z0 z1 z2 z3 z4 z5 z6 d0
                      generalize fb.length + 1 = lb1 at *
                      have E8 : Hid (Below Wr.heap.size Wr (w7.setCell ⟨Wr.heap.size, 4, none⟩ (.slice (some ⟨g2, 0, none⟩) lb1 c2)) ∧ BX 32 (w7.setCell ⟨Wr.heap.size, 4, none⟩ (.slice (some ⟨g2, 0, none⟩) lb1 c2)) Wr.heap.size #[.int .i64 (i : Int), .int .i64 2, .int .i64 3, .slice (some ⟨g, 0, none⟩) la1 c, .slice (some ⟨g2, 0, none⟩) lb1 c2, .int .i64 (wakT l i), .int .i64 (opnT l i)] ∧ ((w7.setCell ⟨Wr.heap.size, 4, none⟩ (.slice (some ⟨g2, 0, none⟩) lb1 c2)).ownsRow Wr.heap.size 3 1 (.slice (some ⟨g, 0, none⟩) la1 c) ((List.range (k + 1)).map (sentAt l i)).length (((List.range (k + 1)).map (sentAt l i)).flatMap encI)) ∧ (w7.setCell ⟨Wr.heap.size, 4, none⟩ (.slice (some ⟨g2, 0, none⟩) lb1 c2)).ownsRow Wr.heap.size 3 1 (.slice (some ⟨g2, 0, none⟩) lb1 c2) ((List.range (k + 1)).map (gotT W l off i)).length (((List.range (k + 1)).map (gotT W l off i)).flatMap encI)) := ⟨E7.out.setCell (Nat.le_refl _) _, X7.out.set 4 _, X7.out.own A7.out (by decide), X7.out.own B7.out (by decide)⟩
                      obtain ⟨y0, y1, y2, y3, y4, y5, y6⟩ := X7.out.all7
                      obtain ⟨z0, z1, z2, z3, z4, z5, z6⟩ := X7.out.all7f
                      go_wp2_with fail
                      go_roundw
                      case rel => exact ⟨k + 1, _, _, by omega, by go_num, E8.out.2.1, E8.out.2.2.1, E8.out.2.2.2, AP7.out, E8.out.1⟩
                      case measure => simp [intOf]; omega
                  · have ek : k = W := by omega
                    have SA : Hid (InR wr va (repT W l off i).sent) := by show InR _ _ _; have h := (RowK.own encI_len A4.out : InR wr va _); rwa [ek] at h
                    have GA : Hid (InR wr vb (repT W l off i).got) := by show InR _ _ _; have h := (RowK.own encI_len B4.out : InR wr vb _); rwa [ek] at h
                    obtain ⟨aa, ac, hae⟩ := SA.out.shape
                    obtain ⟨ba, bc, hbe⟩ := GA.out.shape
                    generalize (repT W l off i).sent.length = n1 at hae
                    generalize (repT W l off i).got.length = n2 at hbe
                    subst hae hbe
                    have QX4 : Hid (BX 24 wr qb #[.int .i64 (W : Int), .int .i64 2, .int .i64 3, vr]) := QX.out.below E4.out (by have := QX.out.lt; omega)
                    have OR4 : Hid (OwnR wr V1.heap.size vr (repsT W l o out off t)) := OR.out.below E4.out (Nat.le_refl _)
                    obtain ⟨ra, rc, hre⟩ := OR4.out.shape
                    have CH : Hid (Calls Try.prog 13 #[.agg #[.int .i64 (W : Int), .int .i64 2, .int .i64 3, vr], .agg #[.int .i64 (i : Int), .int .i64 2, .int .i64 3, .slice aa n1 ac, .slice ba n2 bc, .int .i64 (wakT l i), .int .i64 (opnT l i)]] wr fun e w' => ∃ v', e = .returned (.tuple #[.agg #[.int .i64 (W : Int), .int .i64 2, .int .i64 3, v'], .int .i64 0]) ∧ OwnR w' wr.heap.size v' (repsT W l o out off (t + 1)) ∧ Below wr.heap.size wr w') := by
                      have h := bHear_any (brdT W l o out off t) (repT W l off i) vr _ _ wr OR4.out.reads SA.out GA.out (brdT_B (by omega)) (repT_B (by omega))
                      rw [HHE.out.1, HHE.out.2] at h
                      exact h
                    generalize (repsT W l o out off t).length = rn at hre
                    subst hre
                    obtain ⟨y0, y1, y2, y3, y4, y5, y6⟩ := X4.out.all7
                    obtain ⟨m0, m1, m2, m3⟩ := QX4.out.all4
                    clear ek SA GA A4 B4 AP
                    go_wp2_with fail
                    refine CH.out.mono ?_
                    rintro e w5 ⟨v5, rfl, ho5, hb5⟩
                    obtain ⟨xa, xc, hxe⟩ := ho5.shape
                    have hs5 := hb5.size
                    have bA := hb5.alloc hs5 (.cells #[.int .i64 (W : Int), .int .i64 2, .int .i64 3, v5] 24)
                    have E7 : Hid (Below Wr.heap.size Wr (w5.alloc (.cells #[.int .i64 (W : Int), .int .i64 2, .int .i64 3, v5] 24)) ∧ BX 24 (w5.alloc (.cells #[.int .i64 (W : Int), .int .i64 2, .int .i64 3, v5] 24)) w5.heap.size #[.int .i64 (W : Int), .int .i64 2, .int .i64 3, v5] ∧ BX 24 (w5.alloc (.cells #[.int .i64 (W : Int), .int .i64 2, .int .i64 3, v5] 24)) qb #[.int .i64 (W : Int), .int .i64 2, .int .i64 3, .slice ra rn rc] ∧ OwnR (w5.alloc (.cells #[.int .i64 (W : Int), .int .i64 2, .int .i64 3, v5] 24)) V1.heap.size v5 (repsT W l o out off (t + 1))) := ⟨E4.out.trans (bA.mono hs4), BX.new _ _ _, QX4.out.below bA QX4.out.lt, (ho5.below (below_alloc _ _) (Nat.le_refl _)).lower (by omega)⟩
                    generalize (repsT W l o out off (t + 1)).length = xn at hxe
                    subst hxe
                    clear ho5 hb5 bA CH y0 y1 y2 y3 y4 y5 y6 m0 m1 m2 m3
                    go_upto_region 40 with fail
                    generalize w5.alloc (.cells #[.int .i64 (W : Int), .int .i64 2, .int .i64 3, .slice xa xn xc] 24) = w6 at *
                    generalize w5.heap.size = b6 at *
                    obtain ⟨e6, x6, y6, o6⟩ := E7.out
                    obtain ⟨m0, m1, m2, m3⟩ := x6.all4
                    obtain ⟨n0, n1', n2', n3⟩ := y6.all4
                    obtain ⟨f0, f1, f2, f3⟩ := y6.all4f
                    have E8 : Hid (BX 24 (put4 w6 qb (.int .i64 (W : Int)) (.int .i64 2) (.int .i64 3) (.slice xa xn xc)) qb #[.int .i64 (W : Int), .int .i64 2, .int .i64 3, .slice xa xn xc] ∧ OwnR (put4 w6 qb (.int .i64 (W : Int)) (.int .i64 2) (.int .i64 3) (.slice xa xn xc)) V1.heap.size (.slice xa xn xc) (repsT W l o out off (t + 1)) ∧ Kept (fun q => q = qb) V1 (put4 w6 qb (.int .i64 (W : Int)) (.int .i64 2) (.int .i64 3) (.slice xa xn xc))) := ⟨BX.put4 y6, o6.put4 y6 (by decide) (by decide), (KP.out.trans (Kept.of e6)).trans (kept_put4 w6 qb _ _ _ _)⟩
                    clear e6 x6 y6 o6 E7
                    unfold put4 at E8
                    go_wp2_with fail
                    go_roundw
                    case rel => exact ⟨t + 1, _, by omega, by go_num, E8.out.1, E8.out.2.1, E8.out.2.2⟩
                    case measure => simp [intOf]; omega
            · have et : t = W := by omega
              have OW9 : Hid (RpsR wr vr (repsT W l o out off W)) := by show RpsR _ _ _; have := OR.out.reads; rwa [et] at this
              obtain ⟨ra, rc, hre⟩ := OW9.out.shape
              generalize (repsT W l o out off W).length = rn at hre
              subst hre
              obtain ⟨m0, m1, m2, m3⟩ := HMr.out.all4
              obtain ⟨f0, f1, f2, f3⟩ := HMr.out.all4f
              obtain ⟨z0, z1, z2, z3⟩ := QX.out.all4
              have HX : Hid (P (.returned (.tuple #[.agg #[.int .i64 (W : Int), .int .i64 2, .int .i64 3, .slice ra rn rc], .bool true])) (put4 wr w.heap.size (.int .i64 (W : Int)) (.int .i64 2) (.int .i64 3) (.slice ra rn rc))) := HE.out _ _ (by
                obtain ⟨gs, k1, k2, k3⟩ := OR.out.put4 (a := .int .i64 (W : Int)) (b := .int .i64 2) (c := .int .i64 3) (d := .slice ra rn rc) HMr.out (by decide) (by decide)
                have := OwnR.reads ⟨gs, k1, k2, k3⟩
                rwa [et] at this) (below_put4 HBWr.out (Nat.le_refl _) _ _ _ _)
              have RX : Hid (BX 24 (put4 wr w.heap.size (.int .i64 (W : Int)) (.int .i64 2) (.int .i64 3) (.slice ra rn rc)) w.heap.size #[.int .i64 (W : Int), .int .i64 2, .int .i64 3, .slice ra rn rc]) := BX.put4 HMr.out
              clear et BWr MMr ISr ITr
              go_wp2_with fail
              obtain ⟨r0, r1, r2, r3⟩ := RX.out.all4
              unfold put4 at r0 r1 r2 r3
              exact bodyPost_ret (v := .tuple #[.agg #[.int .i64 (W : Int), .int .i64 2, .int .i64 3, .slice ra rn rc], .bool true]) (by simp [results, Try.results18, go_sem, r0, r1, r2, r3]) rfl HX.out

end Go.Proofs.Ytpikfiegmnmbmaa
