/-
  Contract of paths.bothWays.
-/
import Derived.Test.YtankibadiomkkabPathReached
import Derived.Test.YtankibadiomkkabPathNones
import Derived.Test.YtankibadiomkkabStrongMath
namespace Go.Proofs.Ytankibadiomkkab
set_option maxRecDepth 100000
open Go.ChangeShapes Go.WideShapes Go.ChangeAt Go.RowKit

/-- The first k vertices are told: those that are marked twice have the number v. -/
def GvI (n : Nat) (l : List Int) (A B : List Bool) (v : Int) (k : Nat) (l2 : List Int) : Prop :=
  l2.length = n ∧ ∀ u : Int, 0 ≤ u ∧ u < (n : Int) → (u < (k : Int) ∧ atB A u = true ∧ atB B u = true ∧ atD l2 u = v) ∨ (¬ (u < (k : Int) ∧ atB A u = true ∧ atB B u = true) ∧ atD l2 u = atD l u)
theorem gv_start {n : Nat} {l : List Int} {A B : List Bool} {v : Int} (hl : l.length = n) : GvI n l A B v 0 l := ⟨hl, fun u hu => .inr ⟨fun h => by omega, rfl⟩⟩
theorem gv_no {n k : Nat} {l l2 : List Int} {A B : List Bool} {v : Int} (h : GvI n l A B v k l2) (hc : ¬ (atB A (k : Int) = true ∧ atB B (k : Int) = true)) : GvI n l A B v (k + 1) l2 := ⟨h.1, fun u hu => by
  rcases h.2 u hu with ⟨a, b, c, d⟩ | ⟨a, b⟩
  · exact .inl ⟨by omega, b, c, d⟩
  · refine .inr ⟨fun ⟨h1, h2, h3⟩ => ?_, b⟩
    by_cases e : u = (k : Int)
    · subst e; exact hc ⟨h2, h3⟩
    · exact a ⟨by omega, h2, h3⟩⟩
theorem gv_yes {n k : Nat} {l l2 : List Int} {A B : List Bool} {v : Int} (h : GvI n l A B v k l2) (hk : k < n) (ha : atB A (k : Int) = true) (hb : atB B (k : Int) = true) : GvI n l A B v (k + 1) (l2.set k v) := ⟨by rw [List.length_set]; exact h.1, fun u hu => by
  have hs := atD_set (i := (k : Int)) (v := u) (x := v) h.1 (by omega) hu
  rw [Int.toNat_natCast] at hs
  rw [hs]
  by_cases e : u = (k : Int)
  · subst e
    rw [if_pos rfl]
    exact .inl ⟨by omega, ha, hb, rfl⟩
  · rw [if_neg e]
    rcases h.2 u hu with ⟨a, b, c, d⟩ | ⟨a, b⟩
    · exact .inl ⟨by omega, b, c, d⟩
    · exact .inr ⟨fun ⟨h1, h2, h3⟩ => a ⟨by omega, h2, h3⟩, b⟩⟩
/-- All are told: the vertex v has given its number. -/
theorem gv_all {n k : Nat} {es ds : List Ed} {l l2 : List Int} (hg : InG n es) (hd : InG n ds) (ht : ∀ u v, Rch ds u v ↔ Rch es v u) (hk : k < n) (hL : LsI n (Mut es) k l) (hn : atD l (k : Int) = -1)
    (h : GvI n l (reachF n es (k : Int)) (reachF n ds (k : Int)) (k : Int) n l2) : LsI n (Mut es) (k + 1) l2 := by
  refine ls_give (fun h => h.symm) (fun h1 h2 => h1.trans h2) hk hL hn h.1 fun v hv => ?_
  have hki : 0 ≤ (k : Int) ∧ (k : Int) < (n : Int) := by omega
  have hA := (reach_ok hg hki).2 v hv
  have hB := (reach_ok hd hki).2 v hv
  rw [ht] at hB
  rcases h.2 v hv with ⟨_, b, c, d⟩ | ⟨a, b⟩
  · exact .inl ⟨⟨hA.1 b, hB.1 c⟩, d⟩
  · exact .inr ⟨fun hm => a ⟨hv.2, hA.2 hm.1, hB.2 hm.2⟩, b⟩

/-- What bothWays answers: of each vertex the least one with which it is tied both ways, in a list of its own. -/
def BthP (n : Nat) (es : List Ed) (w : World) (e : Ending) (w' : World) : Prop := ∃ v', e = .returned v' ∧ w'.ownsRow w.heap.size 3 1 v' n ((strongF n es).flatMap encI) ∧ Below w.heap.size w w'
theorem atD_got {l : List Int} {n : Nat} {v : Nat} (hl : l.length = n) (hv : v < n) : l[v]? = some (atD l (v : Int)) := by
  have h : v < l.length := by omega
  unfold atD
  rw [Int.toNat_natCast, List.getD_eq_getElem?_getD, List.getElem?_eq_getElem h]
  rfl
theorem atB_got {l : List Bool} {n : Nat} {v : Nat} (hl : l.length = n) (hv : v < n) : l[v]? = some (atB l (v : Int)) := by
  have := atB_get hl (v := (v : Int)) (by omega)
  rwa [Int.toNat_natCast] at this

set_option maxHeartbeats 2000000 in
set_option maxRecDepth 100000 in
theorem bothWays_any (vo vi : Value) (es ds : List Ed) (n : Nat) (w : World) (ho : LsR w vo (tblF n es)) (hi : LsR w vi (tblF n ds)) (hg : InG n es) (hd : InG n ds) (ht : ∀ u v, Rch ds u v ↔ Rch es v u) (hn : n ≤ 200) (hl : es.length ≤ 600) (hl2 : ds.length ≤ 600) :
    Calls Try.prog 10 #[vo, vi] w (BthP n es w) := by
  have HRO : Hid (LsR w vo (tblF n es)) := ho
  have HRI : Hid (LsR w vi (tblF n ds)) := hi
  have HA : Hid (∀ (k : Nat) (l l2 : List Int), k < n → LsI n (Mut es) k l → atD l (k : Int) = -1 → GvI n l (reachF n es (k : Int)) (reachF n ds (k : Int)) (k : Int) n l2 → LsI n (Mut es) (k + 1) l2) := fun k l l2 h1 h2 h3 h4 => gv_all hg hd ht h1 h2 h3 h4
  have HO : Hid (∀ (k : Nat) X, k < n → LsR X vo (tblF n es) → Calls Try.prog 13 #[vo, .int .i64 (k : Int)] X (RcdP n es k X)) := fun k X hk hX => reached_any vo es n k X hX hg hn hl hk
  have HI : Hid (∀ (k : Nat) X, k < n → LsR X vi (tblF n ds) → Calls Try.prog 13 #[vi, .int .i64 (k : Int)] X (RcdP n ds k X)) := fun k X hk hX => reached_any vi ds n k X hX hd hn hl2 hk
  have HEL : Hid (∀ k : Nat, k < n → (reachF n es (k : Int)).length = n) := fun k hk => (reach_ok hg ⟨by omega, by omega⟩).1
  have HDL : Hid (∀ k : Nat, k < n → (reachF n ds (k : Int)).length = n) := fun k hk => (reach_ok hd ⟨by omega, by omega⟩).1
  have HP : Hid (∀ (w' : World) l, LsI n (Mut es) n l → w'.ownsRow w.heap.size 3 1 (.slice (some ⟨w.heap.size, 0, none⟩) n n) n (l.flatMap encI) → Below w.heap.size w w' → BthP n es w (.returned (.slice (some ⟨w.heap.size, 0, none⟩) n n)) w') := fun w' l h1 h2 h3 => ⟨_, rfl, by
    rw [← strong_uniq hg (ls_end (fun v => ⟨Rch.refl _ _, Rch.refl _ _⟩) h1)]; exact h2, h3⟩
  have HNO : Hid (∀ X, Calls Try.prog 16 #[.int .i64 (n : Int)] X fun e w' => e = .returned (.slice (some ⟨X.heap.size, 0, none⟩) n n) ∧ w'.ownsRow X.heap.size 3 1 (.slice (some ⟨X.heap.size, 0, none⟩) n n) n ((List.replicate n (-1 : Int)).flatMap encI) ∧ Below X.heap.size X w') := fun X => nones_any n X hn
  generalize BthP n es w = P at *
  have htl : (tblF n es).length = n := by simp [tblF]
  have htd : (tblF n ds).length = n := by simp [tblF]
  obtain ⟨oa, oc, rfl, hoc, hom, _⟩ := ho
  obtain ⟨ia, ic, rfl, hic, him, _⟩ := hi
  rw [htl] at HRO HO hoc ⊢
  rw [htd] at HRI HI hic ⊢
  unfold maxLen at hom him
  clear htl htd hg hd ht hl hl2
  go_enter Try.func10, Try.ntmps10
  go_wp2_with fail
  refine (HNO.out _).mono ?_
  rintro e w1 ⟨rfl, ho1, hb1⟩
  have O1 : Hid (w1.ownsRow w.heap.size 3 1 (.slice (some ⟨w.heap.size, 0, none⟩) n n) n ((List.replicate n (-1 : Int)).flatMap encI)) := ho1
  have B1 : Hid (Below w.heap.size w w1) := hb1
  clear ho1 hb1 HNO
  go_wp2_with fail
  go_loopw [15] (fun i wr => ∃ (k : Nat) (l : List Int), k ≤ n ∧ i = .int .i64 k ∧ LsI n (Mut es) k l ∧ wr.ownsRow w.heap.size 3 1 (.slice (some ⟨w.heap.size, 0, none⟩) n n) n (l.flatMap encI) ∧ Below w.heap.size w wr) (fun i _ => n - (intOf i).toNat)
  case atStart => exact ⟨0, _, by omega, rfl, ls_start n _, O1.out, B1.out⟩
  case round =>
    obtain ⟨k, l, hk, rfl, hL, hown, hbel⟩ := hrel
    have HL : Hid (LsI n (Mut es) k l) := hL
    have OW : Hid (wr.ownsRow w.heap.size 3 1 (.slice (some ⟨w.heap.size, 0, none⟩) n n) n (l.flatMap encI)) := hown
    have BW : Hid (Below w.heap.size w wr) := hbel
    clear hL hown hbel O1 B1
    by_cases hlt : k < n
    · have c0 := own_atN OW.out (atD_got HL.out.1 hlt)
      have p0 : (0 : Int) ≤ (k : Int) := by omega
      have p1 : (k : Int) < (n : Int) := by omega
      by_cases hv : atD l (k : Int) = -1
      · rw [hv] at c0
        have t0 : ((-1 : Int) != (-1 : Int)) = false := by decide
        have HV : Hid (atD l (k : Int) = -1) := hv
        clear hv
        go_wp2_with fail
        refine (HO.out k _ hlt (HRO.out.below BW.out (Nat.le_refl _))).mono ?_
        rintro e w2 ⟨va, rfl, ho2, hb2⟩
        have O2 : Hid (w2.ownsRow wr.heap.size 4 1 va n ((reachF n es (k : Int)).flatMap encT)) := ho2
        have B2 : Hid (Below w.heap.size w w2) := BW.out.trans (hb2.mono BW.out.size)
        have L2 : Hid (w2.ownsRow w.heap.size 3 1 (.slice (some ⟨w.heap.size, 0, none⟩) n n) n (l.flatMap encI)) := own_below OW.out hb2 (Nat.le_refl _)
        clear hb2 c0
        rcases own_shapeK ho2 with ⟨_, h0, _⟩ | ⟨ga, ca, rfl, hga, hga2, hca, hcam, _⟩
        · omega
        clear ho2
        go_wp2_with fail
        refine (HI.out k _ hlt (HRI.out.below B2.out (Nat.le_refl _))).mono ?_
        rintro e w3 ⟨vb, rfl, ho3, hb3⟩
        have O3 : Hid (w3.ownsRow w2.heap.size 4 1 vb n ((reachF n ds (k : Int)).flatMap encT)) := ho3
        have B3 : Hid (Below w.heap.size w w3) := B2.out.trans (hb3.mono B2.out.size)
        have L3 : Hid (w3.ownsRow w.heap.size 3 1 (.slice (some ⟨w.heap.size, 0, none⟩) n n) n (l.flatMap encI)) := own_below L2.out hb3 (Nat.le_refl _)
        have A3 : Hid (w3.ownsRow wr.heap.size 4 1 (.slice (some ⟨ga, 0, none⟩) n ca) n ((reachF n es (k : Int)).flatMap encT)) := own_below O2.out hb3 (Nat.le_refl _)
        clear hb3 O2 L2
        rcases own_shapeK ho3 with ⟨_, h0, _⟩ | ⟨gb, cb, rfl, hgb, hgb2, hcb, hcbm, _⟩
        · omega
        clear ho3
        have HNX : Hid (∀ l2, GvI n l (reachF n es (k : Int)) (reachF n ds (k : Int)) (k : Int) n l2 → LsI n (Mut es) (k + 1) l2) := fun l2 h => HA.out k l l2 hlt HL.out HV.out h
        have hAl := HEL.out k hlt
        have hBl := HDL.out k hlt
        have HAL : Hid ((reachF n es (k : Int)).length = n) := hAl
        have HBL : Hid ((reachF n ds (k : Int)).length = n) := hBl
        unfold maxLen at hcam hcbm
        clear hAl hBl HV
        generalize reachF n es (k : Int) = A at *
        generalize reachF n ds (k : Int) = B at *
        generalize wr.heap.size = sA at *
        generalize w2.heap.size = sB at *
        go_wp2_with fail
        go_loopw [31] (fun i wr => ∃ (t : Nat) (l2 : List Int), t ≤ n ∧ i = .int .i64 t ∧ GvI n l A B (k : Int) t l2 ∧ wr.ownsRow w.heap.size 3 1 (.slice (some ⟨w.heap.size, 0, none⟩) n n) n (l2.flatMap encI) ∧ wr.ownsRow sA 4 1 (.slice (some ⟨ga, 0, none⟩) n ca) n (A.flatMap encT) ∧ wr.ownsRow sB 4 1 (.slice (some ⟨gb, 0, none⟩) n cb) n (B.flatMap encT) ∧ Below w.heap.size w wr) (fun i _ => n - (intOf i).toNat)
        case atStart => exact ⟨0, l, by omega, rfl, gv_start HL.out.1, L3.out, A3.out, O3.out, B3.out⟩
        case round =>
          obtain ⟨t, l2, htn, rfl, hG, hown, hoa, hob, hbel⟩ := hrel
          have KG : Hid (GvI n l A B (k : Int) t l2) := hG
          have KL : Hid (wr.ownsRow w.heap.size 3 1 (.slice (some ⟨w.heap.size, 0, none⟩) n n) n (l2.flatMap encI)) := hown
          have KA : Hid (wr.ownsRow sA 4 1 (.slice (some ⟨ga, 0, none⟩) n ca) n (A.flatMap encT)) := hoa
          have KB : Hid (wr.ownsRow sB 4 1 (.slice (some ⟨gb, 0, none⟩) n cb) n (B.flatMap encT)) := hob
          have KE : Hid (Below w.heap.size w wr) := hbel
          clear hG hown hoa hob hbel
          by_cases hltt : t < n
          · have a0 := own_atB KA.out (atB_got HAL.out hltt)
            have b0 := own_atB KB.out (atB_got HBL.out hltt)
            have d0 := own_atN KL.out (atD_got KG.out.1 hltt)
            have f0 := frozenK KL.out t
            have q0 : (0 : Int) ≤ (t : Int) := by omega
            have q1 : (t : Int) < (n : Int) := by omega
            have HNO : Hid (¬ (atB A (t : Int) = true ∧ atB B (t : Int) = true) → GvI n l A B (k : Int) (t + 1) l2) := fun h => gv_no KG.out h
            have HYE : Hid (atB A (t : Int) = true → atB B (t : Int) = true → GvI n l A B (k : Int) (t + 1) (l2.set t (k : Int))) := fun h1 h2 => gv_yes KG.out hltt h1 h2
            cases hA : atB A (t : Int) with
            | false =>
              rw [hA] at a0 HNO
              have KG2 : Hid (GvI n l A B (k : Int) (t + 1) l2) := HNO.out (by simp)
              clear hA HNO HYE
              go_wp2_with fail
              go_roundw
              case rel => exact ⟨t + 1, l2, by omega, by go_num, KG2.out, KL.out, KA.out, KB.out, KE.out⟩
              case measure => simp [intOf]; omega
            | true =>
              rw [hA] at a0 HNO HYE
              cases hB : atB B (t : Int) with
              | false =>
                rw [hB] at b0 HNO
                have KG2 : Hid (GvI n l A B (k : Int) (t + 1) l2) := HNO.out (by simp)
                clear hA hB HNO HYE
                go_wp2_with fail
                go_roundw
                case rel => exact ⟨t + 1, l2, by omega, by go_num, KG2.out, KL.out, KA.out, KB.out, KE.out⟩
                case measure => simp [intOf]; omega
              | true =>
                rw [hB] at b0 HYE
                have KG2 : Hid (GvI n l A B (k : Int) (t + 1) (l2.set t (k : Int))) := HYE.out rfl rfl
                have W5 : Hid ((wr.setCell ⟨w.heap.size, t, none⟩ (.int .i64 (k : Int))).ownsRow w.heap.size 3 1 (.slice (some ⟨w.heap.size, 0, none⟩) n n) n ((l2.set t (k : Int)).flatMap encI) ∧ (wr.setCell ⟨w.heap.size, t, none⟩ (.int .i64 (k : Int))).ownsRow sA 4 1 (.slice (some ⟨ga, 0, none⟩) n ca) n (A.flatMap encT) ∧ (wr.setCell ⟨w.heap.size, t, none⟩ (.int .i64 (k : Int))).ownsRow sB 4 1 (.slice (some ⟨gb, 0, none⟩) n cb) n (B.flatMap encT) ∧ Below w.heap.size w (wr.setCell ⟨w.heap.size, t, none⟩ (.int .i64 (k : Int)))) :=
                  ⟨own_setN KL.out, own_other KA.out (own_apart KA.out KL.out (by decide)), own_other KB.out (own_apart KB.out KL.out (by decide)), KE.out.setCell (Nat.le_refl _) _⟩
                clear hA hB HNO HYE
                go_wp2_with fail
                go_roundw
                case rel => exact ⟨t + 1, _, by omega, by go_num, KG2.out, W5.out.1, W5.out.2.1, W5.out.2.2.1, W5.out.2.2.2⟩
                case measure => simp [intOf]; omega
          · have et : t = n := by omega
            subst et
            have HN2 : Hid (LsI t (Mut es) (k + 1) l2) := HNX.out l2 KG.out
            go_wp2_with fail
            go_roundw
            case rel => exact ⟨k + 1, l2, by omega, by go_num, HN2.out, KL.out, KE.out⟩
            case measure => simp [intOf]; omega
      · have t0 : (atD l (k : Int) != -1) = true := by simpa using hv
        have HN2 : Hid (LsI n (Mut es) (k + 1) l) := ls_skip (fun h1 h2 => h1.trans h2) hlt HL.out hv
        clear hv
        generalize atD l (k : Int) = y at *
        go_wp2_with fail
        go_roundw
        case rel => exact ⟨k + 1, l, by omega, by go_num, HN2.out, OW.out, BW.out⟩
        case measure => simp [intOf]; omega
    · have ek : k = n := by omega
      subst ek
      go_wp2_with fail
      exact HP.out _ l HL.out OW.out BW.out
end Go.Proofs.Ytankibadiomkkab
