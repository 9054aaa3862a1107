/-
  For whatever list of slices of bytes and number cut: of frames whose end is torn off frame.All has all whole ones, and no other (the law FrameTorn returns true, and the list reads as before); no condition.
-/
import Derived.Test.YtjagefchoggbaabTornWalk
import Derived.WalkKit
import Derived.ProofKit
import Derived.OpenShut
import Derived.ShutString
import Derived.Deep.RegionWith
import Derived.Deep.Matrix
import Derived.ChangeOld
import Derived.Below
namespace Go.Proofs.Ytjagefchoggbaab.frameTorn
open Go.ChangeShapes Go.WideShapes Go.ChangeAt Go.RowKit

theorem own : ownKnob Try.prog.godebug = none := by kernel_rfl
theorem laidOut : laidOutB Try.prog = true := by kernel_rfl

set_option maxHeartbeats 800000 in
set_option maxRecDepth 100000 in
theorem walk_none (a : Option Addr) (cap : Nat) (cut : Int) (w : World) (h0 : -9223372036854775808 ≤ cut) (h1 : cut ≤ 9223372036854775807) :
    Calls Try.prog 3 #[.slice a 0 cap, .int .i64 cut] w fun e w' => e = .returned (.bool true) ∧ Below w.heap.size w w' := by
  have hall : Hid (allF [] = ([], 0)) := show allF [] = ([], 0) from by decide
  have hp : pickF cut 1 = 0 := by have := pickF_bd cut 1 (by omega); omega
  have HP : Hid (pickF cut 1 = 0) := hp
  clear hp
  have RN : Hid (Reads .u8 w (.slice none 0 0) []) := ⟨none, 0, rfl, by simp, by simp [maxLen], fun _ => rfl, fun x hx => by cases hx⟩
  go_enter Try.func3, Try.ntmps3
  go_wp2_with fail
  refine wp_loop_rounds 1 ?_
  rw [rounds_succ]
  go_wp2_with fail
  refine (picked_any cut 1 _ h0 h1 (by omega) (by omega)).mono ?_
  rintro e w1 ⟨rfl, rfl⟩
  rw [HP.out]
  go_wp2_with fail
  refine (all_any _ [] _ RN.out (by simp) (by simp)).mono ?_
  rintro e w2 ⟨v2, rfl, hl, hbel⟩
  rw [hall.out] at hl ⊢
  obtain ⟨vs, _, o, _⟩ := hl
  obtain ⟨ga, gc, rfl⟩ : ∃ ga gc, v2 = .slice ga 0 gc := by rcases own_cases o with ⟨h, _⟩ | ⟨g, c, h, _⟩ <;> exact ⟨_, _, h⟩
  clear o
  go_wp2_with fail
  refine wp_loop_rounds 1 ?_
  rw [rounds_succ]
  go_wp2_with fail
  refine wp_loop_rounds 1 ?_
  rw [rounds_succ]
  go_wp2_with fail
  go_ret
  exact ⟨ret_bool (by simp), hbel⟩

set_option maxHeartbeats 2000000 in
set_option maxRecDepth 100000 in
theorem walk_some (v : Value) (ls : List (List Int)) (cut : Int) (w : World) (hn : 0 < ls.length) (h : InLists w v ls) (h0 : -9223372036854775808 ≤ cut) (h1 : cut ≤ 9223372036854775807) :
    Calls Try.prog 3 #[v, .int .i64 cut] w fun e w' => e = .returned (.bool true) ∧ Below w.heap.size w w' := by
  obtain ⟨b, off, cap, vs, rfl, hc, hm, hbw, hel⟩ := h.plain hn
  unfold maxLen at hm
  obtain ⟨t, ht1, ht2, ht3⟩ : ∃ t, t ≤ ls.length ∧ t ≤ 8 ∧ (ls.length = t ∨ 8 = t) := ⟨min ls.length 8, by omega, by omega, by omega⟩
  have HT3 : Hid (ls.length = t ∨ 8 = t) := ht3
  have ht0 : 0 < t := by omega
  have HE : Hid (∀ i, i < ls.length → w.cell? ⟨b, off + i, none⟩ = some (vs i) ∧ Reads .u8 w (vs i) (ls.getD i []) ∧ ∀ y ∈ ls.getD i [], 0 ≤ y ∧ y ≤ 255) := hel
  clear h hel ht3
  go_enter Try.func3, Try.ntmps3
  go_wp2_with fail
  go_loopw [5, 6, 7] (fun sa se si wr => ∃ k : Nat, k ≤ t ∧ si = .int .i64 k ∧ wr.ownsRow w.heap.size 5 1 sa (cat (pay ls k)).length ((cat (pay ls k)).map (Value.int .u8)) ∧ wr.ownsRow w.heap.size 3 1 se (endsOf ls k).length ((endsOf ls k).map (Value.int .i64)) ∧ Below w.heap.size w wr) (fun _ _ i _ => t - (intOf i).toNat)
  case atStart => exact ⟨0, by omega, rfl, World.ownsRow_nil _ _ _ _, World.ownsRow_nil _ _ _ _, Below.refl _ _⟩
  case round =>
    obtain ⟨k, hk, rfl, hoa, hoe, hbel⟩ := hrel
    have OA : Hid (wr.ownsRow w.heap.size 5 1 u5 (cat (pay ls k)).length ((cat (pay ls k)).map (Value.int .u8))) := hoa
    have OE : Hid (wr.ownsRow w.heap.size 3 1 u6 (endsOf ls k).length ((endsOf ls k).map (Value.int .i64))) := hoe
    have BR : Hid (Below w.heap.size w wr) := hbel
    have hsr := hbel.size
    have hcb := cat_bound ls k
    have hst := cat_step ls k
    clear hoa hoe hbel
    by_cases hlt : k < t
    · have hl1 : (k : Int) < (ls.length : Int) := by omega
      have hl2 : (k : Int) < 8 := by omega
      have hl0 : (0 : Int) ≤ (k : Int) := by omega
      obtain ⟨hck0, hrd0, hby0⟩ := HE.out k (by omega)
      have hck : wr.cell? ⟨b, off + k, none⟩ = some (vs k) := (BR.out.cell (by exact hbw)).trans hck0
      have RK : Hid (Reads .u8 wr (vs k) (ls.getD k [])) := hrd0.below BR.out (Nat.le_refl _)
      have BYK : Hid (∀ y ∈ (ls.getD k []).take 60, 0 ≤ y ∧ y ≤ 255) := fun y hy => hby0 y (List.mem_of_mem_take hy)
      have hpl : ((ls.getD k []).take 60).length ≤ 60 := by rw [List.length_take]; omega
      have HCS : Hid (cat (pay ls (k + 1)) = cat (pay ls k) ++ wrap ((ls.getD k []).take 60)) := cat_pay_succ ls k
      have HES : Hid (endsOf ls (k + 1) = endsOf ls k ++ [((cat (pay ls (k + 1))).length : Int)]) := ends_succ ls k
      have hel2 : (endsOf ls k).length ≤ 8 := by rw [ends_len]; omega
      clear hck0 hrd0 hby0
      generalize vs k = vk at *
      obtain ⟨ka, kn, kc, rfl⟩ : ∃ a n c, vk = .slice a n c := by obtain ⟨a, c, h, _⟩ := RK.out; exact ⟨_, _, _, h⟩
      generalize ls.getD k [] = lk at *
      go_wp2_with fail
      refine (some_any _ lk 60 _ RK.out (by omega)).mono ?_
      rintro e w1 ⟨v1, rfl, hown1, hbel1⟩
      generalize lk.take 60 = p at *
      have O1 : Hid (w1.ownsRow wr.heap.size 5 1 v1 p.length (p.map (Value.int .u8))) := hown1
      have C1 : Hid (Below wr.heap.size wr w1) := hbel1
      have hs1 := hbel1.size
      clear hown1 hbel1
      go_wp2_with fail
      refine (wrap_any _ p _ (reads_own O1.out) BYK.out (by omega)).mono ?_
      rintro e w2 ⟨v2, rfl, hown2, hbel2⟩
      have C2 : Hid (Below wr.heap.size wr w2) := C1.out.trans (hbel2.mono hs1)
      have R2 : Hid (Reads .u8 w2 v2 (wrap p)) := reads_own hown2
      have OA2 : Hid (w2.ownsRow w.heap.size 5 1 u5 (cat (pay ls k)).length ((cat (pay ls k)).map (Value.int .u8))) := own_below OA.out C2.out (Nat.le_refl _)
      have OE2 : Hid (w2.ownsRow w.heap.size 3 1 u6 (endsOf ls k).length ((endsOf ls k).map (Value.int .i64))) := own_below OE.out C2.out (Nat.le_refl _)
      have B2 : Hid (Below w.heap.size w w2) := BR.out.trans (C2.out.mono hsr)
      have hs2 := B2.out.size
      have hwl : (wrap p).length ≤ 74 := by have := wrap_len p; have := put_len (p.length : Int); omega
      clear hown2 hbel2
      have hcc : (cat (pay ls k)).length ≤ 592 := by omega
      have HL : Hid ((cat (pay ls (k + 1))).length = (cat (pay ls k)).length + (wrap p).length) := by show _ = _; rw [HCS.out, List.length_append]
      clear hcb hst
      go_wp2_with (first
        | (at_builtin; refine wpList_append_reads rfl _ _ rfl w.heap.size _ (cat (pay ls k)) rfl OA2.out _ (wrap p) rfl R2.out (by omega) hs2 ?_))
      intro v3 w3 hown3 hbel3 hgrow3
      have OA3 : Hid (w3.ownsRow w.heap.size 5 1 v3 (cat (pay ls (k + 1))).length ((cat (pay ls (k + 1))).map (Value.int .u8))) := by show World.ownsRow _ _ _ _ _ _ _; rw [HCS.out]; simpa using hown3
      have OE3 : Hid (w3.ownsRow w.heap.size 3 1 u6 (endsOf ls k).length ((endsOf ls k).map (Value.int .i64))) := OE2.out.kept hgrow3 (own_apart3 OA2.out OE2.out).2
      have B3 : Hid (Below w.heap.size w w3) := B2.out.trans hbel3
      have hs3 := B3.out.size
      clear hown3 hbel3 hgrow3
      have hcl : (cat (pay ls (k + 1))).length ≤ 700 := by rw [HL.out]; omega
      obtain ⟨g3, c3, rfl, _, _, _, _, _⟩ := own_shape OA3.out (by have := wrap_pos p; rw [HL.out]; omega)
      go_wp2_with (first
        | (at_builtin; refine wpList_append_ints rfl _ _ rfl w.heap.size _ (endsOf ls k) rfl (OE3.out.alloc _) w3.heap.size ((cat (pay ls (k + 1))).length : Int) rfl (cell_new0 _ _ 3) (by omega) (by simp; omega) ?_))
      intro v4 w4 hown4 hbel4 hgrow4
      have OE4 : Hid (w4.ownsRow w.heap.size 3 1 v4 (endsOf ls (k + 1)).length ((endsOf ls (k + 1)).map (Value.int .i64))) := by show World.ownsRow _ _ _ _ _ _ _; rw [HES.out]; simpa using hown4
      have OA4 : Hid (w4.ownsRow w.heap.size 5 1 (.slice (some ⟨g3, 0, none⟩) (cat (pay ls (k + 1))).length c3) (cat (pay ls (k + 1))).length ((cat (pay ls (k + 1))).map (Value.int .u8))) := (OA3.out.alloc _).kept hgrow4 (own_apart3 OA3.out OE3.out).1
      have B4 : Hid (Below w.heap.size w w4) := (B3.out.alloc hs3 _).trans hbel4
      clear hown4 hbel4 hgrow4
      go_wp2
      go_roundw
      case rel => exact ⟨k + 1, by omega, by go_num, OA4.out, OE4.out, B4.out⟩
      case measure => simp [intOf]; omega
    · have ek : k = t := by omega
      subst ek
      have hL5 : 5 ≤ (cat (pay ls k)).length := by have h1 := cat_mono (ls := ls) (a := 1) (b := k) (by omega); have h2 : (cat (pay ls 0)).length + 5 ≤ (cat (pay ls 1)).length := (cat_step ls 0).1; omega
      have OE' : Hid (wr.ownsRow w.heap.size 3 1 u6 k ((endsOf ls k).map (Value.int .i64))) := by have := OE.out; rwa [ends_len] at this
      obtain ⟨g, ca, rfl, hg, hg', hca, hcma, _⟩ := own_shape OA.out (by omega)
      obtain ⟨ge, ce, rfl, hge, hge', hce, hcme, _⟩ := own_shape OE'.out (by omega)
      have CE : Hid (∀ i, i < k → wr.cell? ⟨ge, i, none⟩ = some (.int .i64 ((cat (pay ls (i + 1))).length : Int))) := fun i hi => by
        have h1 := OE'.out
        have h2 : wr.ownsRow w.heap.size 3 1 (.slice (some ⟨ge, 0, none⟩) k ce) (endsOf ls k).length ((endsOf ls k).map (Value.int .i64)) := by rw [ends_len]; exact h1
        have h3 := own_cell64 h2 (i := i) (by rw [ends_len]; exact hi)
        rwa [ends_getD hi] at h3
      unfold maxLen at hcma hcme
      have BYC : Hid (∀ x ∈ cat (pay ls k), 0 ≤ x ∧ x ≤ 255) := cat_pay_bytes (fun i hi => (HE.out i (by omega)).2.2)
      have RT : Hid (∀ c, c ≤ (cat (pay ls k)).length → Reads .u8 wr (.slice (some ⟨g, 0, none⟩) c c) ((cat (pay ls k)).take c)) := fun c hc => reads_own_take OA.out hc
      have TA : Hid (∀ c, c ≤ (cat (pay ls k)).length → ∃ j, j ≤ k ∧ allF ((cat (pay ls k)).take c) = (pay ls j, (cat (pay ls j)).length) ∧ (∀ i, i < j → (cat (pay ls (i + 1))).length ≤ c) ∧ ∀ i, j ≤ i → i < k → c < (cat (pay ls (i + 1))).length) := fun c hc => torn_at ls k c hc
      clear OA OE OE' hst
      have HLb : Hid ((cat (pay ls k)).length ≤ 74 * k) := hcb
      obtain ⟨L, hL⟩ : ∃ L, (cat (pay ls k)).length = L := ⟨_, rfl⟩
      rw [hL] at hL5 hca RT TA hcb ⊢
      have HLL : Hid ((cat (pay ls k)).length = L) := hL
      clear hL
      have hLb : L ≤ 592 := by omega
      obtain ⟨c, hcp⟩ : ∃ c : Nat, pickF cut ((L : Int) + 1) = (c : Int) := ⟨_, (Int.toNat_of_nonneg (pickF_bd cut _ (by omega)).1).symm⟩
      have hcL : (c : Int) < (L : Int) + 1 := by rw [← hcp]; exact (pickF_bd cut _ (by omega)).2
      have HCP : Hid (pickF cut ((L : Int) + 1) = (c : Int)) := hcp
      clear hcp hcb
      obtain ⟨j, hj, hjall, hjle, hjgt⟩ := TA.out c (by omega)
      have HJA : Hid (allF ((cat (pay ls k)).take c) = (pay ls j, (cat (pay ls j)).length)) := hjall
      have HJL : Hid (∀ i, i < j → (cat (pay ls (i + 1))).length ≤ c) := hjle
      have HJG : Hid (∀ i, j ≤ i → i < k → c < (cat (pay ls (i + 1))).length) := hjgt
      have RC : Hid (Reads .u8 wr (.slice (some ⟨g, 0, none⟩) c c) ((cat (pay ls k)).take c)) := RT.out c (by omega)
      have hca1 : c ≤ ca := by omega
      have hca2 : (c : Int) ≤ (ca : Int) := by omega
      have hca0 : (0 : Int) ≤ (c : Int) := by omega
      clear hjall hjle hjgt RT TA
      have hnl : ((ls.length : Int) == 0) = false := by
        have h9 : (ls.length : Int) ≠ 0 := by omega
        rw [beq_eq_false_iff_ne]; exact h9
      have hL4 : (4 : Int) < (L : Int) := by omega
      by_cases hk1 : (k : Int) < (ls.length : Int)
      all_goals
        have hk8 : (k : Int) < (ls.length : Int) → (8 : Int) ≤ (k : Int) := fun hh => by rcases HT3.out with h9 | h9 <;> omega
        try (have hk9 := hk8 hk1)
        clear hk8
        go_wp2_with fail
        refine (picked_any cut ((L : Int) + 1) _ h0 h1 (by omega) (by omega)).mono ?_
        rintro e wp ⟨rfl, rfl⟩
        rw [HCP.out]
        go_wp2_with fail
        refine (all_any _ ((cat (pay ls k)).take c) _ RC.out (fun x hx => BYC.out x (List.mem_of_mem_take hx)) (by rw [List.length_take]; omega)).mono ?_
        rintro e w5 ⟨v5, rfl, hlists, hbel5⟩
        rw [HJA.out] at hlists ⊢
        obtain ⟨ga, gc, vs5, rfl, hgc1, hgc2, hgel⟩ := hlists.shape
        rw [pay_len] at hgc1 hgel ⊢
        have GE : Hid (∀ i, i < j → ∃ g, ga = some ⟨g, 0, none⟩ ∧ g < w5.heap.size ∧ w5.cell? ⟨g, i, none⟩ = some (vs5.getD i undef) ∧ Reads .u8 w5 (vs5.getD i undef) ((ls.getD i []).take 60)) := fun i hi => by
          obtain ⟨g, e1, e2, e3, e4⟩ := hgel i hi
          rw [pay_getD hi] at e4
          exact ⟨g, e1, e2, e3, e4⟩
        have CE5 : Hid (∀ i, i < k → w5.cell? ⟨ge, i, none⟩ = some (.int .i64 ((cat (pay ls (i + 1))).length : Int))) := fun i hi => (hbel5.cell (by exact hge')).trans (CE.out i hi)
        have B5 : Hid (Below w.heap.size w w5) := BR.out.trans (hbel5.mono hsr)
        have HE5 : Hid (∀ i, i < ls.length → w5.cell? ⟨b, off + i, none⟩ = some (vs i) ∧ Reads .u8 w5 (vs i) (ls.getD i []) ∧ ∀ y ∈ ls.getD i [], 0 ≤ y ∧ y ≤ 255) := fun i hi => by
          obtain ⟨e1, e2, e3⟩ := HE.out i hi
          exact ⟨(B5.out.cell (by exact hbw)).trans e1, e2.below B5.out (Nat.le_refl _), e3⟩
        have hbw5 : b < w5.heap.size := Nat.lt_of_lt_of_le hbw B5.out.size
        have hs5 := B5.out.size
        clear hlists hgel hbel5
        unfold maxLen at hgc2
        go_wp2_with fail
        go_loop [13, 14, 15] (fun sw sl si => ∃ i : Nat, i ≤ k ∧ si = .int .i64 i ∧ sw = .int .i64 (low i j : Nat) ∧ sl = .int .i64 ((cat (pay ls (low i j))).length : Nat)) (fun _ _ si => k - (intOf si).toNat)
        case atStart => exact ⟨0, by omega, rfl, by unfold low; split <;> simp_all, by have : low 0 j = 0 := by unfold low; split <;> omega
                                                                                       rw [this]; rfl⟩
        case round =>
          obtain ⟨i, hi, rfl, rfl, rfl⟩ := hrel
          by_cases hik : i < k
          · have hce5 := CE5.out i hik
            have hik' : (i : Int) < (k : Int) := by omega
            have hi0 : (0 : Int) ≤ (i : Int) := by omega
            have hiL := cat_bound ls (i + 1)
            by_cases hij : i < j
            · have hle := HJL.out i hij
              have HLO : Hid (low (i + 1) j = i + 1) := low_succ hij
              rw [low_lt hij]
              obtain ⟨E, hE⟩ : ∃ E, (cat (pay ls (i + 1))).length = E := ⟨_, rfl⟩
              rw [hE] at hce5 hle hiL
              have HEE : Hid ((cat (pay ls (i + 1))).length = E) := hE
              clear hE
              have hle' : (E : Int) ≤ (c : Int) := by omega
              generalize (cat (pay ls i)).length = M0 at *
              go_wp2_with fail
              go_round
              case rel => exact ⟨i + 1, by omega, by go_num, by rw [HLO.out]; go_num, by rw [HLO.out, HEE.out]⟩
              case measure => simp [intOf]; omega
            · have hgt := HJG.out i (by omega) hik
              have HLO : Hid (low (i + 1) j = j) := low_ge (by omega)
              rw [low_ge (show j ≤ i by omega)]
              generalize (cat (pay ls (i + 1))).length = E at *
              have hgt' : ¬ ((E : Int) ≤ (c : Int)) := by omega
              obtain ⟨M0, hM0⟩ : ∃ M0, (cat (pay ls j)).length = M0 := ⟨_, rfl⟩
              have HM0 : Hid ((cat (pay ls j)).length = M0) := hM0
              rw [hM0]
              clear hM0
              go_wp2_with fail
              go_round
              case rel => exact ⟨i + 1, by omega, by go_num, by rw [HLO.out], by rw [HLO.out, HM0.out]⟩
              case measure => simp [intOf]; omega
          · have eik : i = k := by omega
            subst eik
            rw [low_ge hj]
            generalize (cat (pay ls j)).length = M0 at *
            have bj : ((j : Int) != (j : Int)) = false := by simp
            have bM : ((M0 : Int) != (M0 : Int)) = false := by simp
            go_wp2_with fail
            go_loopw [16] (fun si wq => ∃ n : Nat, n ≤ j ∧ si = .int .i64 n ∧ Below w5.heap.size w5 wq) (fun si _ => j - (intOf si).toNat)
            case atStart => exact ⟨0, by omega, rfl, Below.refl _ _⟩
            case round =>
              obtain ⟨n, hnj, rfl, hbq⟩ := hrel
              by_cases hnj2 : n < j
              · obtain ⟨gg, rfl, hgg, hgc, hgr⟩ := GE.out n hnj2
                obtain ⟨l1, l2, l3⟩ := HE5.out n (by omega)
                have d1 : wr.cell? ⟨gg, n, none⟩ = some (vs5.getD n undef) := (hbq.cell (by exact hgg)).trans hgc
                have d2 : wr.cell? ⟨b, off + n, none⟩ = some (vs n) := (hbq.cell (by exact hbw5)).trans l1
                have hgr2 : gg < wr.heap.size := Nat.lt_of_lt_of_le hgg hbq.size
                have RG : Hid (∀ u, Below wr.heap.size wr u → Reads .u8 u (vs5.getD n undef) ((ls.getD n []).take 60)) := fun u hu => (hgr.below hbq (Nat.le_refl _)).below hu (Nat.le_refl _)
                have RL : Hid (Reads .u8 wr (vs n) (ls.getD n [])) := l2.below hbq (Nat.le_refl _)
                have BYP : Hid (∀ y ∈ (ls.getD n []).take 60, 0 ≤ y ∧ y ≤ 255) := fun y hy => l3 y (List.mem_of_mem_take hy)
                have HBQ : Hid (Below w5.heap.size w5 wr) := hbq
                have hsq := hbq.size
                clear l1 l2 l3 hgc hgr hbq
                generalize vs5.getD n undef = x1 at *
                generalize vs n = x2 at *
                generalize ls.getD n [] = lk at *
                obtain ⟨y1, n1, z1, rfl⟩ : ∃ a n c, x1 = .slice a n c := by obtain ⟨a, c, h, _⟩ := RG.out wr (Below.refl _ _); exact ⟨_, _, _, h⟩
                obtain ⟨y2, n2, z2, rfl⟩ : ∃ a n c, x2 = .slice a n c := by obtain ⟨a, c, h, _⟩ := RL.out; exact ⟨_, _, _, h⟩
                have q1 : (n : Int) < (j : Int) := by omega
                have q2 : (n : Int) < (ls.length : Int) := by omega
                have q0 : (0 : Int) ≤ (n : Int) := by omega
                go_wp2_with fail
                go_region_with (first
                  | (go_at_call 6; refine (some_any _ lk 60 _ ?_ ?_).mono ?_; exact RL.out; omega; rintro e w6 ⟨v6, rfl, hown6, hbel6⟩; have hb6 : Below wr.heap.size wr w6 := ⟨hbel6.os, hbel6.tape, hbel6.output, hbel6.size, hbel6.block⟩; have r6 := reads_own hown6; have R6 := RG.out _ hb6; have d6 := (hb6.cell (p := ⟨gg, n, none⟩) hgr2).trans d1; clear hown6 hbel6)
                  | (go_at_call 9; refine (sameBytesK_any _ _ (lk.take 60) (lk.take 60) _ ?_ ?_ BYP.out BYP.out).mono ?_; exact R6; exact r6; rintro e w7 ⟨rfl, rfl⟩))
                all_goals
                  have B6 := HBQ.out.trans (hb6.mono hsq)
                  go_wp2_with fail
                  go_roundw
                  case rel => exact ⟨n + 1, by omega, by go_num, by first | exact B6 | exact B6.drew | exact B6.drew.drew | exact below_drewN B6 _⟩
                  case measure => simp [intOf]; omega
              · go_wp2_with fail
                go_ret
                exact ⟨ret_bool (by simp), B5.out.trans (hbq.mono hs5)⟩

theorem walk (a0 : Option Addr) (len0 cap0 : Nat) (ls : List (List Int)) (a1 : Int) (w : World) (h : InLists w (.slice a0 len0 cap0) ls) (w1 : (Lit.int .i64 a1).wf = true) :
    Calls Try.prog 3 #[.slice a0 len0 cap0, .int .i64 a1] w fun e w' => e = .returned (.bool true) ∧ Below w.heap.size w w' := by
  have hb := bounds_i64 w1
  by_cases hn : 0 < ls.length
  · exact walk_some _ ls a1 w hn h hb.1 hb.2
  · obtain ⟨a, cap, vs, hv, _⟩ := h
    injection hv with h1 h2 h3
    have h0 : ls.length = 0 := by omega
    rw [h0] at h2
    subst h2
    exact walk_none a0 cap0 a1 w hb.1 hb.2

set_option maxRecDepth 100000 in
theorem lifted (os : Os) (started : os.Started) (H : Type) (enc : TypeId × Value → H) :
    ReturnsInHanded {} Try.checked os 3 .any (Rows.frameTornSpec.pre6 enc Try.prog Try.f3 Rows.frameTornRow.domain false) (Rows.frameTornSpec.post enc Try.prog Try.f3 false true false false) := by
  refine returnsInHanded_of_change (C := Try.checked) own started (by kernel_rfl) Try.func3
    (ChangeSpec.witness6 (enc := enc) (C := Try.checked) false ⟨#[], #[.slice none 0 0, .int .i64 0], []⟩ 8 (by kernel_rfl) (by kernel_rfl) (by kernel_rfl) (by kernel_rfl)) ?_
  intro W base args ds gs before hval0 hW _ _
  have hval : ∀ (j : Nat) t v, Try.f3.params[j]? = some t → args[j]? = some v → Value.okWide Try.prog W .any base t v := hval0
  have hW' := hW
  obtain ⟨p, q, hA0, hV, rfl, hfz, hnd⟩ := hW
  have hA : DataW.TrodAll enc Try.prog W 0 (fun _ => true) true Try.f3.params.toList args.toList ds p := hA0
  rw [Try.params3] at hA hval
  obtain ⟨v0, vs0, d0, ds0, p0, q0, hargs, rfl, rfl, h0, r0⟩ := trodAll_cons hA
  obtain ⟨v1, vs1, d1, ds1, p1, q1, rfl, rfl, rfl, h1, r1⟩ := trodAll_cons r0
  obtain ⟨rfl, rfl, rfl⟩ := trodAll_nil r1
  obtain rfl : args = #[v0, v1] := by cases args; simp_all
  obtain ⟨rfl, rfl⟩ := trodVars_none hV
  obtain ⟨a0, len0, cap0, rfl⟩ := okWide_slice Try.underlying22 (hval 0 22 v0 rfl rfl)
  have k0 := h0
  have lt0 : ∀ x ∈ p0, x.block < W.heap.size := by obtain ⟨m, hm⟩ := k0; exact DataW.trod_lt m _ _ _ hm
  obtain ⟨ls, hin⟩ : ∃ ls, InLists W (.slice a0 len0 cap0) ls := by
    obtain ⟨fuel, hf⟩ := h0
    rcases Go.Deep.open_int_rows Try.underlying22 Try.underlying23 Try.underlying5 (by kernel_rfl) (by kernel_rfl) hf with ⟨hcs, _⟩ | ⟨a, len, cap, A, L, C, Z, hcs, _, hl, hm, _, hr⟩
    · simp [Value.cells] at hcs
      obtain ⟨rfl, rfl, rfl⟩ := hcs
      exact ⟨[], none, 0, fun _ => undef, rfl, by simp, by simp [maxLen], fun i hi => by simp at hi⟩
    · simp [Value.cells] at hcs
      obtain ⟨rfl, rfl, rfl⟩ := hcs
      refine ⟨(List.range len0).map (fun r => (Z r).take (L r)), some a, cap0, fun r => .slice (A r) (L r) (C r), by simp, by simpa using hl, hm, fun i hi => ?_⟩
      have hi' : i < len0 := by simpa using hi
      have e : ((List.range len0).map (fun r => (Z r).take (L r))).getD i [] = (Z i).take (L i) := by rw [List.getD_eq_getElem?_getD, List.getElem?_map, List.getElem?_range hi']; rfl
      obtain ⟨r1, r2, r3, r4, r5, r6, r7⟩ := hr i (by omega)
      have el : ((Z i).take (L i)).length = L i := List.length_take_of_le (by omega)
      rw [e]
      refine ⟨⟨a, rfl, r1⟩, ⟨A i, C i, by rw [el], by omega, r3, r6, fun x hx t ht => ?_⟩, bytes_wf (fun n hn => r5 n (List.mem_of_mem_take hn))⟩
      rw [el] at ht
      rw [(r7 x hx).2 t (by omega), List.getD_eq_getElem?_getD, List.getD_eq_getElem?_getD, List.getElem?_take_of_lt ht]
  obtain ⟨a1, rfl, rfl, rfl, w1⟩ := open_int Try.underlying3 (hval 1 3 v1 rfl rfl) h1
  clear hA0 hval0
  refine (walk a0 len0 cap0 ls a1 W hin w1).mono fun e W' ⟨he, bel⟩ => ?_
  subst he
  exact ⟨_, rfl, _, _, _, [], _, [], hW', trodAll_mk1 (shut_bool Try.underlying4 _), (trodAll_cons_mk (Below.trod laidOut (by kernel_rfl) (of_decide_eq_true (by kernel_rfl)) k0 bel lt0) (trodAll_cons_mk (shut_int Try.underlying3 w1) trodAll_mk0)), rfl, bel.frame _, fun h => by cases h⟩

theorem over : Rows.frameTornRow.holds Try.pinned (OpenSpec.ofChange Rows.frameTornSpec) :=
  OpenClaim.holds_of_wide 3 Try.f3 rfl rfl rfl rfl rfl rfl rfl ⟨rfl, rfl, rfl, rfl, rfl⟩ rfl rfl rfl rfl rfl (by kernel_rfl) Try.func3 (by kernel_rfl)
    (of_decide_eq_true (by kernel_rfl)) (by unfold Func.isWrapper; first | (rw [if_pos (by decide +kernel)]; kernel_rfl) | (rw [if_neg (by decide +kernel)]; exact ⟨rfl, rfl⟩))
    (fun os started H enc _ => lifted os started H enc)

/-- The statement. -/
theorem proved : Rows.FrameTornSaid := over
#print axioms proved
end Go.Proofs.Ytjagefchoggbaab.frameTorn
