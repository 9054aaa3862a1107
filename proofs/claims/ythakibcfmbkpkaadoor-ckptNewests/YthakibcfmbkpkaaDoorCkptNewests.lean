/-
  For every disk and every number ckpt.Newest answers what P14.8 says and leaves its arguments alone (the law CkptNewests returns true, and its arguments read as before). The package variables that the row lists read as their initialisers lay them, which the card ties to the text; no other condition.
-/
import Derived.Test.YthakibcfmbkpkaaDoorDiskOpen
import Derived.Test.YthakibcfmbkpkaaDoorCkptNewestsPartB
import Derived.Test.YthakibcfmbkpkaaDoorCkptNewestsPartC
import Derived.Test.YthakibcfmbkpkaaDoorTie
import Derived.Test.YthakibcfmbkpkaaDoorCards
import Derived.WalkKit
import Derived.ProofKit
import Derived.OpenShut
import Derived.ShutString
import Derived.SizedLaws
import Derived.ChangeOld
import Derived.Below
import Derived.SevenTiedAt
namespace Go.Proofs.YthakibcfmbkpkaaDoor.ckptNewests
set_option maxRecDepth 100000
open Go.ChangeShapes Go.WideShapes Go.ChangeAt Go.RowKit

theorem own : ownKnob Tryd.prog.godebug = none := by kernel_rfl
theorem laidOut : laidOutB Tryd.prog = true := by kernel_rfl

set_option maxHeartbeats 8000000 in
set_option maxRecDepth 100000 in
theorem walk (v0 : Value) (fs0 : List FileL) (n1 : Int) (w : World) (hD0 : DiskR w v0 fs0) (hG0 : Good fs0) (hL0 : fs0.length * 48 ≤ 140737488351232) (hI1 : -9223372036854775808 ≤ n1 ∧ n1 ≤ 9223372036854775807) (hF : NoF w) :
    Calls Tryd.prog 5 #[.agg #[v0], .int .i64 n1] w fun e w' => e = .returned (.bool true) ∧ Below w.heap.size w w' := by
  have _u := hD0
  clear _u
  have _u := hG0
  clear _u
  have _u := hL0
  clear _u
  have _u := hI1
  clear _u
  have _u := hF
  clear _u hF hI1
  have HD : Hid (DiskR w v0 fs0) := hD0
  have HGD : Hid (Good fs0) := hG0
  obtain ⟨a, cap, rfl⟩ : ∃ a c, v0 = .slice a fs0.length c := by obtain ⟨a, c, e, _⟩ := hD0; exact ⟨a, c, e⟩
  obtain ⟨W0, hW0⟩ : ∃ W0, W0 = w.alloc (.cells #[.slice a fs0.length cap] 24) := ⟨_, rfl⟩
  have Q0 : BX 24 W0 w.heap.size #[.slice a fs0.length cap] := by rw [hW0]; exact BX.new _ _ _
  have B0 : Below w.heap.size w W0 := by rw [hW0]; exact below_alloc _ _
  have s0 : w.heap.size < W0.heap.size := Q0.lt
  have HK : Hid (∀ X, Below W0.heap.size W0 X → BX 24 X w.heap.size #[.slice a fs0.length cap] ∧ Below w.heap.size w X ∧ DiskR X (.slice a fs0.length cap) fs0) := fun X hX => by
    have hb := B0.trans (hX.mono (show w.heap.size ≤ W0.heap.size by omega))
    exact ⟨Q0.below hX s0, hb, HD.out.below hb (Nat.le_refl _)⟩
  have A0 : Hid (Below W0.heap.size W0 W0) := Below.refl _ _
  obtain ⟨q0, _⟩ := Q0.all1
  clear Q0 B0 HD hD0 hG0
  have CB : Hid (Calls Tryd.prog 6 #[.agg #[.slice a fs0.length cap]] W0 fun e w' => ∃ v, e = .returned (.agg #[v]) ∧ DiskR w' v fs0 ∧ Below W0.heap.size W0 w') := disks_any _ fs0 _ (HK.out _ A0.out).2.2 HGD.out hL0
  have CY : Hid (∀ X v, DiskR X v fs0 → Calls Tryd.prog 13 #[.agg #[v], .int .i64 n1] X (SvdP X (newE fs0 n1))) := fun X v h => ckNewest_any v fs0 n1 X h HGD.out
  have CZ : Hid (∀ X, DiskR X (.slice a fs0.length cap) fs0 → Calls Tryd.prog 14 #[.agg #[.slice a fs0.length cap], .int .i64 n1] X (SvdP X (newE fs0 n1))) := fun X h => newestOf_any _ fs0 n1 X h HGD.out
  have CS : Hid (∀ X u v, DiskR X u fs0 → DiskR X v fs0 → Calls Tryd.prog 9 #[.agg #[u], .agg #[v]] X fun e w' => e = .returned (.bool true) ∧ Below X.heap.size X w') := fun X u v h1 h2 => sameDisk_yes u v fs0 X h1 h2 HGD.out
  clear HGD
  generalize newE fs0 n1 = R at *
  obtain ⟨s, t2⟩ := R
  have CT : Hid (∀ X u1 u2 v1 v2, MlR X u1 s.vals → MlR X u2 s.mail → MlR X v1 s.vals → MlR X v2 s.mail → Calls Tryd.prog 12 #[.agg #[.int .i64 s.step, .int .i64 s.phase, .bool s.fresh, u1, u2], .agg #[.int .i64 s.step, .int .i64 s.phase, .bool s.fresh, v1, v2]] X fun e w' => e = .returned (.bool true) ∧ Below X.heap.size X w') := fun X u1 u2 v1 v2 h1 h2 h3 h4 => sameSaved_yes s u1 v1 u2 v2 X h1 h3 h2 h4
  have te : (t2 == t2) = true := by simp
  go_enter Tryd.func5, Tryd.ntmps5
  go_upto_region 1 with fail
  rw [← hW0]
  clear hW0
  go_wp2_with fail
  refine CB.out.mono ?_
  rintro e w1 ⟨v1, rfl, ho1, hb1⟩
  obtain ⟨ca, cc, rfl⟩ : ∃ a c, v1 = .slice a fs0.length c := by obtain ⟨a, c, e, _⟩ := ho1; exact ⟨a, c, e⟩
  have N1 : Hid (Below W0.heap.size W0 (w1.alloc (.cells #[.slice ca fs0.length cc] 24)) ∧ BX 24 (w1.alloc (.cells #[.slice ca fs0.length cc] 24)) w1.heap.size #[.slice ca fs0.length cc] ∧ DiskR (w1.alloc (.cells #[.slice ca fs0.length cc] 24)) (.slice ca fs0.length cc) fs0) := ⟨hb1.alloc hb1.size _, BX.new _ _ _, ho1.below (below_alloc _ _) (Nat.le_refl _)⟩
  clear ho1 hb1 q0 CB
  go_upto_region 2 with fail
  generalize w1.alloc (.cells #[.slice ca fs0.length cc] 24) = w2 at *
  generalize w1.heap.size = p1 at *
  have hl1 := N1.out.2.1.lt
  have hs1 := N1.out.1.size
  have KC : Hid (∀ X, Below w2.heap.size w2 X → Below W0.heap.size W0 X ∧ BX 24 X p1 #[.slice ca fs0.length cc] ∧ DiskR X (.slice ca fs0.length cc) fs0) := fun X hX => ⟨N1.out.1.trans (hX.mono hs1), N1.out.2.1.below hX hl1, N1.out.2.2.below hX (Nat.le_refl _)⟩
  have A2 : Hid (Below w2.heap.size w2 w2) := Below.refl _ _
  obtain ⟨c0, _⟩ := (KC.out _ A2.out).2.1.all1
  go_wp2_with fail
  refine (CY.out _ _ (KC.out _ A2.out).2.2).mono ?_
  rintro e w3 ⟨pw3, qw3, rfl, ho1, ho2, hb⟩
  have g1 : MlR w3 pw3 s.vals := RowK.own encM_len ho1
  have g2 : MlR w3 qw3 s.mail := RowK.own encM_len ho2
  obtain ⟨xa, xc, rfl⟩ := g1.shape
  obtain ⟨xb, xd, rfl⟩ := g2.shape
  have Nw3 : Hid (Below w2.heap.size w2 (w3.alloc (.cells #[.int .i64 s.step, .int .i64 s.phase, .bool s.fresh, .slice xa s.vals.length xc, .slice xb s.mail.length xd] 34)) ∧ BX 34 (w3.alloc (.cells #[.int .i64 s.step, .int .i64 s.phase, .bool s.fresh, .slice xa s.vals.length xc, .slice xb s.mail.length xd] 34)) w3.heap.size #[.int .i64 s.step, .int .i64 s.phase, .bool s.fresh, .slice xa s.vals.length xc, .slice xb s.mail.length xd] ∧ (MlR (w3.alloc (.cells #[.int .i64 s.step, .int .i64 s.phase, .bool s.fresh, .slice xa s.vals.length xc, .slice xb s.mail.length xd] 34)) (.slice xa s.vals.length xc) s.vals ∧ MlR (w3.alloc (.cells #[.int .i64 s.step, .int .i64 s.phase, .bool s.fresh, .slice xa s.vals.length xc, .slice xb s.mail.length xd] 34)) (.slice xb s.mail.length xd) s.mail)) := ⟨hb.alloc hb.size _, BX.new _ _ _, ⟨g1.below (below_alloc _ _) (Nat.le_refl _), g2.below (below_alloc _ _) (Nat.le_refl _)⟩⟩
  clear hb c0 ho1 ho2 g1 g2
  go_upto_region 3 with fail
  generalize w3.alloc (.cells #[.int .i64 s.step, .int .i64 s.phase, .bool s.fresh, .slice xa s.vals.length xc, .slice xb s.mail.length xd] 34) = w4 at *
  generalize w3.heap.size = p3 at *
  have hlw3 := Nw3.out.2.1.lt
  have hsw3 := Nw3.out.1.size
  have KD : Hid (∀ X, Below w4.heap.size w4 X → Below w2.heap.size w2 X ∧ BX 34 X p3 #[.int .i64 s.step, .int .i64 s.phase, .bool s.fresh, .slice xa s.vals.length xc, .slice xb s.mail.length xd] ∧ (MlR X (.slice xa s.vals.length xc) s.vals ∧ MlR X (.slice xb s.mail.length xd) s.mail)) := fun X hX => ⟨Nw3.out.1.trans (hX.mono hsw3), Nw3.out.2.1.below hX hlw3, ⟨Nw3.out.2.2.1.below hX (Nat.le_refl _), Nw3.out.2.2.2.below hX (Nat.le_refl _)⟩⟩
  have A4 : Hid (Below w4.heap.size w4 w4) := Below.refl _ _
  obtain ⟨c0, _⟩ := (HK.out _ (KC.out _ (KD.out _ A4.out).1).1).1.all1
  go_wp2_with fail
  refine (CZ.out _ (HK.out _ (KC.out _ (KD.out _ A4.out).1).1).2.2).mono ?_
  rintro e w5 ⟨pw5, qw5, rfl, ho1, ho2, hb⟩
  have g1 : MlR w5 pw5 s.vals := RowK.own encM_len ho1
  have g2 : MlR w5 qw5 s.mail := RowK.own encM_len ho2
  obtain ⟨ya, yc, rfl⟩ := g1.shape
  obtain ⟨yb, yd, rfl⟩ := g2.shape
  have Nw5 : Hid (Below w4.heap.size w4 (w5.alloc (.cells #[.int .i64 s.step, .int .i64 s.phase, .bool s.fresh, .slice ya s.vals.length yc, .slice yb s.mail.length yd] 34)) ∧ BX 34 (w5.alloc (.cells #[.int .i64 s.step, .int .i64 s.phase, .bool s.fresh, .slice ya s.vals.length yc, .slice yb s.mail.length yd] 34)) w5.heap.size #[.int .i64 s.step, .int .i64 s.phase, .bool s.fresh, .slice ya s.vals.length yc, .slice yb s.mail.length yd] ∧ (MlR (w5.alloc (.cells #[.int .i64 s.step, .int .i64 s.phase, .bool s.fresh, .slice ya s.vals.length yc, .slice yb s.mail.length yd] 34)) (.slice ya s.vals.length yc) s.vals ∧ MlR (w5.alloc (.cells #[.int .i64 s.step, .int .i64 s.phase, .bool s.fresh, .slice ya s.vals.length yc, .slice yb s.mail.length yd] 34)) (.slice yb s.mail.length yd) s.mail)) := ⟨hb.alloc hb.size _, BX.new _ _ _, ⟨g1.below (below_alloc _ _) (Nat.le_refl _), g2.below (below_alloc _ _) (Nat.le_refl _)⟩⟩
  clear hb c0 ho1 ho2 g1 g2
  go_upto_region 4 with fail
  generalize w5.alloc (.cells #[.int .i64 s.step, .int .i64 s.phase, .bool s.fresh, .slice ya s.vals.length yc, .slice yb s.mail.length yd] 34) = w6 at *
  generalize w5.heap.size = p5 at *
  have hlw5 := Nw5.out.2.1.lt
  have hsw5 := Nw5.out.1.size
  have KF : Hid (∀ X, Below w6.heap.size w6 X → Below w4.heap.size w4 X ∧ BX 34 X p5 #[.int .i64 s.step, .int .i64 s.phase, .bool s.fresh, .slice ya s.vals.length yc, .slice yb s.mail.length yd] ∧ (MlR X (.slice ya s.vals.length yc) s.vals ∧ MlR X (.slice yb s.mail.length yd) s.mail)) := fun X hX => ⟨Nw5.out.1.trans (hX.mono hsw5), Nw5.out.2.1.below hX hlw5, ⟨Nw5.out.2.2.1.below hX (Nat.le_refl _), Nw5.out.2.2.2.below hX (Nat.le_refl _)⟩⟩
  have A6 : Hid (Below w6.heap.size w6 w6) := Below.refl _ _
  obtain ⟨c0, c1, c2, c3, c4⟩ := (KF.out _ A6.out).2.1.all5
  obtain ⟨d0, d1, d2, d3, d4⟩ := (KD.out _ (KF.out _ A6.out).1).2.1.all5
  go_wp2_with fail
  refine (CT.out _ _ _ _ _ (KD.out _ (KF.out _ A6.out).1).2.2.1 (KD.out _ (KF.out _ A6.out).1).2.2.2 (KF.out _ A6.out).2.2.1 (KF.out _ A6.out).2.2.2).mono ?_
  rintro e w7 ⟨rfl, hb7⟩
  have A7 : Hid (Below w6.heap.size w6 w7) := hb7
  clear hb7 c0 c1 c2 c3 c4 d0 d1 d2 d3 d4
  have E7 : Hid (Below w2.heap.size w2 w7) := (KD.out _ (KF.out _ A7.out).1).1
  obtain ⟨c0, _⟩ := (KC.out _ E7.out).2.1.all1
  obtain ⟨d0, _⟩ := (HK.out _ (KC.out _ E7.out).1).1.all1
  go_wp2_with fail
  refine (CS.out _ _ _ (KC.out _ E7.out).2.2 (HK.out _ (KC.out _ E7.out).1).2.2).mono ?_
  rintro e w8 ⟨rfl, hb8⟩
  have E8 : Hid (Below w2.heap.size w2 w8) := E7.out.trans (hb8.mono E7.out.size)
  clear hb8 c0 d0
  go_wp2_with fail
  go_ret
  exact ⟨rfl, (HK.out _ (KC.out _ E8.out).1).2.1⟩

set_option maxHeartbeats 400000 in
set_option maxRecDepth 100000 in
theorem lifted (os : Os) (started : os.Started) (H : Type) (enc : TypeId × Value → H) :
    ReturnsInHanded {} Tryd.checked os 5 .any (fun w args => (Rows.ckptNewestsSpec.pre enc Tryd.prog Tryd.f5 Rows.ckptNewestsRow.domain false w args ∧ laidMetH Tryd.prog Rows.ckptNewestsRow.laid w) ∧ sizedMet enc Tryd.prog Tryd.f5 (OpenSpec.ofChange Rows.ckptNewestsSpec) false w args) (Rows.ckptNewestsSpec.post enc Tryd.prog Tryd.f5 false true false false) := by
  refine returns_laid (C := Tryd.checked) (X := fun w _ => laidMetH Tryd.prog Rows.ckptNewestsRow.laid w) (fun _ _ _ hh h => h.of_heap hh) own started (by kernel_rfl) Tryd.func5
    (ChangeSpec.witness_shaped (enc := enc) (C := Tryd.checked) (os := os) (X := fun w _ => laidMetH Tryd.prog Rows.ckptNewestsRow.laid w) false (World.doorLaid Tryd.prog 400 os) #[.agg #[.slice none 0 0], .int .i64 0] 8 rfl (World.shaped_of_RefB (by kernel_rfl) (by kernel_rfl)) (by kernel_rfl) (by kernel_rfl) (by kernel_rfl) (ckptNewests_met os _)) ?_
  intro W base args ds gs before hval0 hW _ hsz0 hsh hL _
  have hval : ∀ (j : Nat) t v, Tryd.f5.params[j]? = some t → args[j]? = some v → Value.okWide Tryd.prog W .any base t v := hval0
  have hW' := hW
  obtain ⟨p, q, hA0, hV, rfl, hfz, hnd⟩ := hW
  have hA : DataW.TrodAll enc Tryd.prog W 0 (fun _ => true) true Tryd.f5.params.toList args.toList ds p := hA0
  have hsz : (DataW.weightsEach Tryd.prog (Tryd.f5.params.toList ++ Rows.ckptNewestsSpec.plain.varTypes Tryd.prog) (ds ++ gs)).all (fun x => decide (x ≤ reachBytes)) = true := hsz0
  rw [Tryd.params5] at hA hval hsz
  obtain ⟨v0, vs0, d0, ds0, p0, q0, hargs, rfl, rfl, h0, r0⟩ := trodAll_cons hA
  obtain ⟨v1, vs1, d1, ds1, p1, q1, rfl, rfl, rfl, h1, r1⟩ := trodAll_cons r0
  obtain ⟨rfl, rfl, rfl⟩ := trodAll_nil r1
  obtain rfl : args = #[v0, v1] := by cases args; simp_all
  obtain ⟨rfl, rfl⟩ := trodVars_none hV
  have k0 := h0
  have lt0 : ∀ x ∈ p0, x.block < W.heap.size := by obtain ⟨m, hm⟩ := k0; exact DataW.trod_lt m _ _ _ hm
  have hw0 : ∀ m ∈ d0.weights Tryd.prog 24, m ≤ reachBytes := fun m hm => by simpa using List.all_eq_true.1 hsz _ (DataW.weights_mem_each (j := 0) (t := 24) rfl rfl m hm)
  have k1 := h1
  have lt1 : ∀ x ∈ p1, x.block < W.heap.size := by obtain ⟨m, hm⟩ := k1; exact DataW.trod_lt m _ _ _ hm
  obtain ⟨w0, fs0, rfl, hD0, hG0, hL0⟩ := open_disk (okWide_struct Tryd.underlying24 (hval 0 24 v0 rfl rfl)) h0 hw0
  obtain ⟨n1, rfl, _, _, wf1⟩ := open_int Tryd.underlying3 (hval 1 3 v1 rfl rfl) h1
  have hI1 := bounds_i64 wf1
  clear hA0 hval0
  refine (walk w0 fs0 n1 W hD0 hG0 hL0 hI1 (no_facts hL hsh)).mono fun e W' ⟨he, bel⟩ => ?_
  subst he
  exact ⟨_, rfl, _, _, _, [], _, [], hW', trodAll_mk1 (shut_bool Tryd.underlying4 _), (trodAll_cons_mk (Below.trod laidOut (by kernel_rfl) (of_decide_eq_true (by kernel_rfl)) k0 bel lt0) (trodAll_cons_mk (Below.trod laidOut (by kernel_rfl) (of_decide_eq_true (by kernel_rfl)) k1 bel lt1) trodAll_mk0)), rfl, bel.frame _, fun h => by cases h⟩

theorem over : Rows.ckptNewestsRow.holds Tryd.pinned (OpenSpec.ofChange Rows.ckptNewestsSpec) :=
  OpenClaim.holds_of_wide 5 Tryd.f5 rfl rfl rfl rfl rfl rfl rfl ⟨rfl, rfl, rfl, rfl, rfl⟩ rfl rfl rfl rfl rfl (by kernel_rfl) Tryd.func5 (by kernel_rfl)
    (of_decide_eq_true (by kernel_rfl)) (by unfold Func.isWrapper; first | (rw [if_pos (by decide +kernel)]; kernel_rfl) | (rw [if_neg (by decide +kernel)]; exact ⟨rfl, rfl⟩))
    (fun os started H enc _ => lifted os started H enc)

/-- The card: what the row lists is tied to the program's text. -/
theorem proved : Rows.CkptNewestsCardSaid :=
  Claim7.holds_tied_plain_at .later [] [.data, .data, .data] true (true, "f595af34c771b0baf9cd4ab5e2b8cbd51fb8921e1f35173da835381966680096") false
    over (fun _ h => by cases h) (by kernel_rfl) (fun _ h => by cases h) ckptNewests_row_tie rfl ⟨rfl, rfl⟩ (by kernel_rfl) rfl
    (fun f fn hf hfn => by
      obtain rfl : f = 5 := Option.some.inj ((show Tryd.prog.funcNamed Rows.ckptNewestsRow.func = some 5 by kernel_rfl).symm.trans hf) |>.symm
      obtain rfl : fn = Tryd.f5 := (Option.some.inj (Tryd.func5.symm.trans hfn)).symm
      exact ⟨by kernel_rfl, fun j t ht => by
        rw [Tryd.params5] at ht
        rcases j with _ | j
        · obtain rfl : t = 24 := by simpa using ht.symm
          exact (show Tryd.prog.wantsStandIn 24 = false by kernel_rfl)
        rcases j with _ | j
        · obtain rfl : t = 3 := by simpa using ht.symm
          exact (show Tryd.prog.wantsStandIn 3 = false by kernel_rfl)
        simp at ht⟩)
    (by kernel_rfl)
#print axioms proved
end Go.Proofs.YthakibcfmbkpkaaDoor.ckptNewests
