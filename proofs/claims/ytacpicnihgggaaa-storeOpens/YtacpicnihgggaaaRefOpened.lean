/-
  Contract of the document's own OpenedPart.
-/
import Derived.Test.YtacpicnihgggaaaOpenRead
import Derived.Test.YtacpicnihgggaaaRefHopsAt
import Derived.Test.YtacpicnihgggaaaRefOwner
import Derived.Test.YtacpicnihgggaaaUnwrappedWalk
namespace Go.Proofs.Ytacpicnihgggaaa
set_option maxRecDepth 100000
open Go.ChangeShapes Go.WideShapes Go.ChangeAt Go.RowKit

theorem unwrapF_len (xs : List Int) : (unwrapF xs).1.length ≤ 20000 := by
  unfold unwrapF
  split
  · simp
  · split
    · simp
    · split
      · simp
      · split
        · simp only [List.length_take]; omega
        · simp
/-- A part's box is filled. -/
theorem put5 {p : Nat} {a b c xx y a' b' c' x' y' : Value} {w : World} (hp : PB w p a b c xx y) :
    PB (((((w.setCell ⟨p, 0, none⟩ a').setCell ⟨p, 1, none⟩ b').setCell ⟨p, 2, none⟩ c').setCell ⟨p, 3, none⟩ x').setCell ⟨p, 4, none⟩ y') p a' b' c' x' y' ∧
    Kept (fun k => k = p) w (((((w.setCell ⟨p, 0, none⟩ a').setCell ⟨p, 1, none⟩ b').setCell ⟨p, 2, none⟩ c').setCell ⟨p, 3, none⟩ x').setCell ⟨p, 4, none⟩ y') :=
  ⟨((((hp.set0 a').set1 b').set2 c').set3 x').set4 y', ((((Kept.box w p 0 a').trans (Kept.box _ p 1 b')).trans (Kept.box _ p 2 c')).trans (Kept.box _ p 3 x')).trans (Kept.box _ p 4 y')⟩
/-- The three numbers at the head, as the document reads them. -/
def headQ (pay : List Int) : Option (Int × Int × Int × List Int) :=
  (numF 7 pay).bind fun a => (numF 8 a.2).bind fun b => (numF 200 b.2).bind fun c => some (a.1, b.1, c.1, c.2)
theorem pay_head (pay : List Int) : payQ pay = (headQ pay).bind fun h => if h.1 < h.2.1 then bodyQ h.1 h.2.1 h.2.2.1 h.2.2.2 else none := by
  unfold payQ headQ
  cases numF 7 pay with
  | none => rfl
  | some a =>
    simp only [Option.bind_some]
    cases numF 8 a.2 with
    | none => rfl
    | some b =>
      simp only [Option.bind_some]
      cases numF 200 b.2 with
      | none => rfl
      | some c => rfl
/-- A place of the payload, and what stands from there on; -1: nothing. -/
def PlR (xs : List Int) (p : Int) (r : Option (List Int)) : Prop := (p = -1 ∧ r = none) ∨ ∃ j : Nat, p = j ∧ j ≤ xs.length ∧ r = some (xs.drop j)
theorem small_uni (v : Value) (xs : List Int) (p : Int) (r : Option (List Int)) (m : Int) (w : World) (h : Reads .u8 w v xs) (hx : ∀ x ∈ xs, 0 ≤ x ∧ x ≤ 255) (hp : PlR xs p r) (hL : xs.length ≤ 1000000) (hm : 0 ≤ m ∧ m ≤ 1099511627776) :
    Calls Try.prog 40 #[v, .int .i64 p, .int .i64 m] w fun e w' => ∃ x p2 : Int, e = .returned (.tuple #[.int .i64 x, .int .i64 p2]) ∧ PlR xs p2 ((r.bind (numF m)).map Prod.snd) ∧ (∀ y l, r.bind (numF m) = some (y, l) → x = y) ∧ w' = w := by
  rcases hp with ⟨rfl, rfl⟩ | ⟨j, rfl, hj, rfl⟩
  · exact (small_neg v m w).mono fun e w' ⟨h1, h2⟩ => ⟨0, -1, h1, .inl ⟨rfl, rfl⟩, fun y l h => (by cases h), h2⟩
  · refine (small_any v xs j m w h hx hj hL hm).mono fun e w' ⟨h1, h2⟩ => ?_
    rcases h1 with ⟨h3, h4⟩ | ⟨x, j2, h3, _, h5, h6⟩
    · exact ⟨0, -1, h4, .inl ⟨rfl, by rw [Option.bind_some, h3]; rfl⟩, fun y l h => (by rw [Option.bind_some, h3] at h; cases h), h2⟩
    · exact ⟨x, j2, h6, .inr ⟨j2, rfl, h5, by rw [Option.bind_some, h3]; rfl⟩, fun y l h => (by rw [Option.bind_some, h3] at h; injection h with h; injection h with h), h2⟩
theorem hopsQ_len {n : Int} {l : List Int} {p : List Hp × List Int} (hb : ∀ y ∈ l, 0 ≤ y ∧ y ≤ 255) (h : hopsQ n l = some p) : p.1.length ≤ 600 := by
  rw [hops_eq hb, Option.filter_eq_some_iff] at h
  simpa using h.2
theorem hopsAt_uni (v : Value) (xs : List Int) (p : Int) (r : Option (List Int)) (n : Int) (w : World) (h : Reads .u8 w v xs) (hx : ∀ x ∈ xs, 0 ≤ x ∧ x ≤ 255) (hp : PlR xs p r) (hL : xs.length ≤ 1000000) :
    Calls Try.prog 41 #[v, .int .i64 p, .int .i64 n] w fun e w' => ∃ (v' : Value) (p2 : Int) (hs : List Hp), e = .returned (.tuple #[v', .int .i64 p2]) ∧ PlR xs p2 ((r.bind (hopsQ n)).map Prod.snd) ∧ (∀ y l, r.bind (hopsQ n) = some (y, l) → hs = y) ∧ w'.ownsRow w.heap.size 87 2 v' hs.length (hs.flatMap encH) ∧ Below w.heap.size w w' := by
  rcases hp with ⟨rfl, rfl⟩ | ⟨j, rfl, hj, rfl⟩
  · exact (hopsAt_neg v n w).mono fun e w' ⟨h1, h2⟩ => ⟨_, -1, [], h1, .inl ⟨rfl, rfl⟩, fun y l h => (by cases h), World.ownsRow_nil _ _ _ _, (by rw [h2]; exact Below.refl _ _)⟩
  · refine (hopsAt_any v xs j n w h hx hj hL).mono fun e w' ⟨h0, h1⟩ => ?_
    rcases h1 with ⟨h3, h4⟩ | ⟨hs, j2, v', h3, h5, h6, h7⟩
    · exact ⟨_, -1, [], h4, .inl ⟨rfl, by rw [Option.bind_some, h3]; rfl⟩, fun y l h => (by rw [Option.bind_some, h3] at h; cases h), World.ownsRow_nil _ _ _ _, h0⟩
    · exact ⟨v', j2, hs, h6, .inr ⟨j2, rfl, h5, by rw [Option.bind_some, h3]; rfl⟩, fun y l h => (by rw [Option.bind_some, h3] at h; injection h with h; injection h with h), h7, h0⟩
/-- What the three smalls come to: all three, or a place below 0. -/
def HeadP (pay : List Int) (a b c : Int) (p : Int) : Prop :=
  (headQ pay = none ∧ p = -1) ∨ ∃ j : Nat, headQ pay = some (a, b, c, pay.drop j) ∧ p = j ∧ j ≤ pay.length ∧ 0 ≤ a ∧ a ≤ 7 ∧ 0 ≤ b ∧ b ≤ 8 ∧ 0 ≤ c ∧ c ≤ 200
theorem head_of {pay : List Int} {a b c p : Int} {r1 r2 : Option (List Int)} (hb : ∀ y ∈ pay, 0 ≤ y ∧ y ≤ 255) (e1 : r1 = (numF 7 pay).map Prod.snd) (e2 : r2 = (r1.bind (numF 8)).map Prod.snd)
    (h1 : ∀ y l, numF 7 pay = some (y, l) → a = y) (h2 : ∀ y l, r1.bind (numF 8) = some (y, l) → b = y) (h3 : ∀ y l, r2.bind (numF 200) = some (y, l) → c = y) (hp : PlR pay p ((r2.bind (numF 200)).map Prod.snd)) : HeadP pay a b c p := by
  unfold HeadP headQ
  cases n1 : numF 7 pay with
  | none =>
    rw [n1] at e1
    subst e1
    subst e2
    rcases hp with ⟨h, _⟩ | ⟨j, _, _, h⟩
    · exact .inl ⟨rfl, h⟩
    · cases h
  | some x =>
    obtain ⟨x, l1⟩ := x
    obtain ⟨x0, x1, _, hb1⟩ := numF_inv hb n1
    have ea := h1 x l1 n1
    rw [n1] at e1
    subst e1 ea
    rw [Option.map_some, Option.bind_some] at e2 h2
    simp only [Option.bind_some]
    cases n2 : numF 8 l1 with
    | none =>
      rw [n2] at e2
      subst e2
      rcases hp with ⟨h, _⟩ | ⟨j, _, _, h⟩
      · exact .inl ⟨rfl, h⟩
      · cases h
    | some y =>
      obtain ⟨y, l2⟩ := y
      obtain ⟨y0, y1, _, hb2⟩ := numF_inv hb1 n2
      have eb := h2 y l2 n2
      rw [n2] at e2
      subst e2 eb
      rw [Option.map_some, Option.bind_some] at h3 hp
      simp only [Option.bind_some]
      cases n3 : numF 200 l2 with
      | none =>
        rw [n3] at hp
        rcases hp with ⟨h, _⟩ | ⟨j, _, _, h⟩
        · exact .inl ⟨rfl, h⟩
        · cases h
      | some z =>
        obtain ⟨z, l3⟩ := z
        obtain ⟨z0, z1, _, _⟩ := numF_inv hb2 n3
        have ec := h3 z l3 n3
        subst ec
        rw [n3] at hp
        rcases hp with ⟨_, h⟩ | ⟨j, h, hj, h4⟩
        · cases h
        · injection h4 with h4
          simp only at h4
          subst h4
          exact .inr ⟨j, rfl, h, hj, x0, x1, y0, y1, z0, z1⟩

set_option maxHeartbeats 4000000 in
set_option maxRecDepth 100000 in
theorem opened_any (v : Value) (xs : List Int) (w : World) (h : Reads .u8 w v xs) (hx : ∀ x ∈ xs, 0 ≤ x ∧ x ≤ 255) :
    Calls Try.prog 15 #[v] w fun e w' => OpnP w w' (openF xs) e := by
  have HR : Hid (Reads .u8 w v xs) := h
  have HU : Hid (∀ X, Reads .u8 X v xs → Calls Try.prog 39 #[v] X fun e w' => ∃ v', e = .returned (.tuple #[v', .int .i64 (unwrapF xs).2.1, .int .i64 (unwrapF xs).2.2]) ∧ w'.ownsRow X.heap.size 5 1 v' (unwrapF xs).1.length ((unwrapF xs).1.map (Value.int .u8)) ∧ Below X.heap.size X w') := fun X hX => unwrapped_any v xs X hX hx
  have HY : Hid (∀ y ∈ (unwrapF xs).1, 0 ≤ y ∧ y ≤ 255) := unwrapF_bytes hx
  have hpl := unwrapF_len xs
  have HF1 : Hid ((unwrapF xs).2.2 ≠ 0 → openF xs = (noP, (unwrapF xs).2.2)) := fun h => by unfold openF; rw [if_pos h]
  have HF2 : Hid ((unwrapF xs).2.2 = 0 → (unwrapF xs).2.1 ≠ xs.length → openF xs = (noP, 3)) := fun h h2 => by unfold openF; rw [if_neg (by simpa using h), if_neg h2]
  have HF3 : Hid ((unwrapF xs).2.2 = 0 → payQ (unwrapF xs).1 = none → openF xs = (noP, 3)) := fun h h3 => by
    unfold openF
    rw [if_neg (by simpa using h), ← pay_eq HY.out, h3]
    split <;> rfl
  have HF4 : Hid (∀ p, (unwrapF xs).2.2 = 0 → (unwrapF xs).2.1 = xs.length → payQ (unwrapF xs).1 = some p → openF xs = (p, 0)) := fun p h h2 h3 => by unfold openF; rw [if_neg (by simpa using h), if_pos h2, ← pay_eq HY.out, h3]
  obtain ⟨va, vc, rfl, _⟩ := id h
  clear h hx
  generalize openF xs = res at *
  generalize (unwrapF xs).1 = pay at *
  generalize (unwrapF xs).2.1 = u at *
  generalize (unwrapF xs).2.2 = fe at *
  generalize xs.length = L at *
  go_enter Try.func15, Try.ntmps15
  go_wp2_with fail
  refine (HU.out _ ?_).mono ?_
  · exact HR.out.below (below_alloc _ _) (Nat.le_refl _)
  rintro e w1 ⟨pv, rfl, hown, hb1⟩
  have B1 : Below (w.heap.size + 1) (w.alloc (.cells #[.int .i64 0, .int .i64 0, .int .i64 0, .slice none 0 0, .slice none 0 0] 36)) w1 := by simpa using hb1
  have PR1 : Hid (PB w1 w.heap.size (.int .i64 0) (.int .i64 0) (.int .i64 0) (.slice none 0 0) (.slice none 0 0)) := by
    show PB _ _ _ _ _ _ _
    unfold PB
    rw [B1.block _ (by omega)]
    exact box_new _ _ _
  have BW1 : Hid (Below w.heap.size w w1) := box_below B1
  have hs1 : w.heap.size + 1 ≤ w1.heap.size := by have := B1.size; simpa using this
  have OP : Hid (w1.ownsRow (w.heap.size + 1) 5 1 pv pay.length (pay.map (Value.int .u8))) := own_lower hown (by simp)
  obtain ⟨pa, pc, rfl⟩ : ∃ pa pc, pv = .slice pa pay.length pc := by obtain ⟨x, y, e, _⟩ := reads_own hown; exact ⟨_, _, e⟩
  clear hb1 B1 hown HU HR
  have RET : Hid (∀ (X : World) (r : PartL × Int), PB X w.heap.size (.int .i64 0) (.int .i64 0) (.int .i64 0) (.slice none 0 0) (.slice none 0 0) → Below w.heap.size w X → r.1 = noP → w.heap.size < X.heap.size →
      (((((X.setCell ⟨w.heap.size, 0, none⟩ (.int .i64 0)).setCell ⟨w.heap.size, 1, none⟩ (.int .i64 0)).setCell ⟨w.heap.size, 2, none⟩ (.int .i64 0)).setCell ⟨w.heap.size, 3, none⟩ (.slice none 0 0)).setCell ⟨w.heap.size, 4, none⟩ (.slice none 0 0)).heap[w.heap.size]? = some (.cells #[.int .i64 0, .int .i64 0, .int .i64 0, .slice none 0 0, .slice none 0 0] 36 (0, 0)) ∧
      OpnP w (((((X.setCell ⟨w.heap.size, 0, none⟩ (.int .i64 0)).setCell ⟨w.heap.size, 1, none⟩ (.int .i64 0)).setCell ⟨w.heap.size, 2, none⟩ (.int .i64 0)).setCell ⟨w.heap.size, 3, none⟩ (.slice none 0 0)).setCell ⟨w.heap.size, 4, none⟩ (.slice none 0 0)) r (.returned (.tuple #[.agg #[.int .i64 0, .int .i64 0, .int .i64 0, .slice none 0 0, .slice none 0 0], .int .i64 r.2]))) := fun X r hp hb hr hl => by
    obtain ⟨p1, k1⟩ := put5 (a' := .int .i64 0) (b' := .int .i64 0) (c' := .int .i64 0) (x' := .slice none 0 0) (y' := .slice none 0 0) hp
    exact ⟨p1, _, rfl, by rw [hr]; exact PartR.none _, hb.trans (k1.below (by omega) fun k hk => by omega)⟩
  by_cases hf : fe = 0
  · subst hf
    have HG2 : Hid (u ≠ L → res = (noP, 3)) := HF2.out rfl
    have HG3 : Hid (payQ pay = none → res = (noP, 3)) := HF3.out rfl
    have HG4 : Hid (∀ p, payQ pay = some p → u = L → res = (p, 0)) := fun p h1 h2 => HF4.out p rfl h2 h1
    clear HF1 HF2 HF3 HF4
    go_wp2_with fail
    refine (small_uni _ pay 0 (some pay) 7 w1 (reads_own OP.out) HY.out (.inr ⟨0, rfl, by omega, rfl⟩) (by omega) (by omega)).mono ?_
    rintro e w2 ⟨a, p1, rfl, hp1, ha, rfl⟩
    have HA : Hid (∀ y l, numF 7 pay = some (y, l) → a = y) := ha
    have HP1 : Hid (PlR pay p1 ((numF 7 pay).map Prod.snd)) := hp1
    clear ha hp1
    go_wp2_with fail
    refine (small_uni _ pay p1 _ 8 w2 (reads_own OP.out) HY.out HP1.out (by omega) (by omega)).mono ?_
    rintro e w3 ⟨b, p2, rfl, hp1, ha, rfl⟩
    have HBB : Hid (∀ y l, ((numF 7 pay).map Prod.snd).bind (numF 8) = some (y, l) → b = y) := ha
    have HP2 : Hid (PlR pay p2 ((((numF 7 pay).map Prod.snd).bind (numF 8)).map Prod.snd)) := hp1
    clear ha hp1
    go_wp2_with fail
    refine (small_uni _ pay p2 _ 200 w3 (reads_own OP.out) HY.out HP2.out (by omega) (by omega)).mono ?_
    rintro e w4 ⟨c, p3, rfl, hp1, ha, rfl⟩
    have HD : Hid (HeadP pay a b c p3) := head_of HY.out rfl rfl HA.out HBB.out ha hp1
    have HPH : Hid (payQ pay = (headQ pay).bind fun h => if h.1 < h.2.1 then bodyQ h.1 h.2.1 h.2.2.1 h.2.2.2 else none) := pay_head pay
    clear ha hp1 HA HBB HP1 HP2
    rcases HD.out with ⟨hn, rfl⟩ | ⟨j0, hh, rfl, hj, a0, a7, b0, b8, c0, c2⟩
    · have hr := HG3.out (by rw [HPH.out, hn]; rfl)
      subst hr
      clear HG2 HG3 HG4 HPH HD
      have hq := PR1.out
      obtain ⟨e0, e1, e2, e3, e4⟩ := hq.cells
      have z0 := hq.frozen 0
      have z1 := hq.frozen 1
      have z2 := hq.frozen 2
      have z3 := hq.frozen 3
      have z4 := hq.frozen 4
      have RT : Hid _ := RET.out w4 (noP, 3) hq BW1.out rfl (by omega)
      clear hq RET
      go_wp2_with fail
      obtain ⟨h1, h2⟩ := RT.out
      obtain ⟨r0, r1, r2, r3, r4⟩ := PB.cells h1
      exact bodyPost_ret (v := .tuple #[.agg #[.int .i64 0, .int .i64 0, .int .i64 0, .slice none 0 0, .slice none 0 0], .int .i64 3]) (by simp [results, Try.results15, go_sem, r0, r1, r2, r3, r4]) rfl h2
    · rw [hh, Option.bind_some] at HPH
      simp only at HPH
      by_cases hu : u = L
      · have HG5 : Hid (∀ p, payQ pay = some p → res = (p, 0)) := fun p h => HG4.out p h hu
        clear HG4 HG2
        subst hu
        have hul : ((u : Int) != (u : Int)) = false := by simp
        by_cases hab : a < b
        · rw [if_pos hab] at HPH
          have HF5 : Hid (bodyQ a b c (pay.drop j0) = none → res = (noP, 3)) := fun h => HG3.out (by rw [HPH.out]; exact h)
          have HF6 : Hid (∀ p, bodyQ a b c (pay.drop j0) = some p → res = (p, 0)) := fun p h => HG5.out p (by rw [HPH.out]; exact h)
          have hab2 : ¬ b ≤ a := by omega
          have heo : errO a b c b = 0 := errO_ok (by omega) (by omega)
          have HMN : Hid (∀ X, Calls Try.prog 30 #[.int .i64 a, .int .i64 c, .int .i64 b] X fun e w' => ∃ v', e = .returned (.tuple #[v', .int .i64 0]) ∧ w'.ownsRow X.heap.size 3 1 v' (mineL a.toNat c.toNat b.toNat).length ((mineL a.toNat c.toNat b.toNat).flatMap encI) ∧ Below X.heap.size X w') := fun X => by
            have := mineOf_any a c b X (by omega)
            rw [heo, okL_yes] at this
            exact this
          have hM : (mineL a.toNat c.toNat b.toNat).length ≤ 200 := by
            rw [mineL_len]
            exact Nat.le_trans (cnt_le (by omega)) (by omega)
          unfold bodyQ at HF5 HF6
          clear HG3 HG5 HPH HD hh heo
          generalize mineL a.toNat c.toNat b.toNat = ML at *
          go_wp2_with fail
          refine (HMN.out _).mono ?_
          rintro e w5 ⟨mv, rfl, hmo, hb5⟩
          have B5 : Below (w4.heap.size + 1) (w4.alloc (.cells #[.int .i64 a, .int .i64 b, .int .i64 c, .slice none 0 0, .slice none 0 0] 36)) w5 := by simpa using hb5
          have PB5 : Hid (PB w5 w4.heap.size (.int .i64 a) (.int .i64 b) (.int .i64 c) (.slice none 0 0) (.slice none 0 0)) := by
            show PB _ _ _ _ _ _ _
            unfold PB
            rw [B5.block _ (by omega)]
            exact box_new _ _ _
          have BB5 : Below w4.heap.size w4 w5 := box_below B5
          have PR5 : Hid (PB w5 w.heap.size (.int .i64 0) (.int .i64 0) (.int .i64 0) (.slice none 0 0) (.slice none 0 0)) := PR1.out.kept (Kept.of (S := fun _ => False) BB5) fun h => h
          have BW5 : Hid (Below w.heap.size w w5) := BW1.out.trans (BB5.mono (by omega))
          have OP5 : Hid (w5.ownsRow (w.heap.size + 1) 5 1 (.slice pa pay.length pc) pay.length (pay.map (Value.int .u8))) := own_below OP.out BB5 (Nat.le_refl _)
          have hs5 : w4.heap.size + 1 ≤ w5.heap.size := by have := B5.size; simpa using this
          obtain ⟨ma, mc, rfl⟩ : ∃ ma mc, mv = .slice ma ML.length mc := by obtain ⟨x, y, e, _⟩ := RowK.own encI_len hmo; exact ⟨_, _, e⟩
          have OL0 : Hid (OwnLs w5 w5.heap.size (.slice none 0 0) []) := OwnLs.nil _ _
          clear hb5 B5 BB5 hmo HMN OP PR1 BW1
          generalize ML.length = M at *
          have hRP : w.heap.size < w4.heap.size := by omega
          generalize w4.heap.size = P at *
          go_wp2_with fail
          go_loopw [12, 16, 17, 18] (fun sp so si i wr => ∃ (k j : Nat) (os is : List (List Hp)) (vo vi : Value), k ≤ M ∧ i = .int .i64 k ∧ sp = .int .i64 j ∧ j ≤ pay.length ∧ so = .int .i64 (sumL os : Nat) ∧ si = .int .i64 (sumL is : Nat) ∧ os.length = k ∧ is.length = k ∧ sumL os ≤ 600 * k ∧ sumL is ≤ 600 * k ∧ PB wr P (.int .i64 a) (.int .i64 b) (.int .i64 c) vo vi ∧ OwnLs wr w5.heap.size vo os ∧ OwnLs wr w5.heap.size vi is ∧ Apt vo vi ∧ partsQ c M [] [] (pay.drop j0) = partsQ c (M - k) os is (pay.drop j) ∧ Kept (fun k => k = P) w5 wr) (fun _ _ _ i _ => M - (intOf i).toNat)
          case atStart => exact ⟨0, j0, [], [], _, _, by omega, rfl, rfl, hj, rfl, rfl, rfl, rfl, Nat.le_refl _, Nat.le_refl _, PB5.out, OL0.out, OL0.out, Apt.nil _, rfl, Kept.refl _ _⟩
          case round =>
            obtain ⟨k, j, os, is, vo, vi, hk, rfl, rfl, hjl, rfl, rfl, hol, hil, hso, hsi, hpb, ho, hi, hap, heq, hkp⟩ := hrel
            have PBX : Hid (PB wr P (.int .i64 a) (.int .i64 b) (.int .i64 c) vo vi) := hpb
            have OO : Hid (OwnLs wr w5.heap.size vo os) := ho
            have OI : Hid (OwnLs wr w5.heap.size vi is) := hi
            have AP : Hid (Apt vo vi) := hap
            have HE : Hid (partsQ c M [] [] (pay.drop j0) = partsQ c (M - k) os is (pay.drop j)) := heq
            have HK : Hid (Kept (fun k => k = P) w5 wr) := hkp
            have HOL : Hid (os.length = k) := hol
            have HIL : Hid (is.length = k) := hil
            have OPR : Hid (wr.ownsRow (w.heap.size + 1) 5 1 (.slice pa pay.length pc) pay.length (pay.map (Value.int .u8))) := hkp.own OP5.out fun g hg => own_block OP5.out hg PB5.out (by decide)
            have PRR : Hid (PB wr w.heap.size (.int .i64 0) (.int .i64 0) (.int .i64 0) (.slice none 0 0) (.slice none 0 0)) := PR5.out.kept hkp (by omega)
            have BWR : Hid (Below w.heap.size w wr) := BW5.out.trans (hkp.below (by omega) fun k hk => by omega)
            obtain ⟨xa, xc, rfl⟩ := ho.shape
            obtain ⟨ya, yc, rfl⟩ := hi.shape
            have hsr := hkp.size
            have hok : os.length ≤ 200 := by omega
            have hik : is.length ≤ 200 := by omega
            have hso2 : sumL os ≤ 120000 := by omega
            have hsi2 : sumL is ≤ 120000 := by omega
            have HSO : Hid (sumL os ≤ 600 * k) := hso
            have HSI : Hid (sumL is ≤ 600 * k) := hsi
            clear hpb ho hi hap heq hkp hol hil OL0 hso hsi
            by_cases hlt : k < M
            · obtain ⟨t, ht⟩ : ∃ t, M - k = t + 1 := ⟨M - k - 1, by omega⟩
              have HT : Hid (M - (k + 1) = t) := by show _ = _; omega
              rw [ht, partsQ] at HE
              clear ht
              go_wp2_with fail
              refine (hopsAt_uni _ pay j (some (pay.drop j)) c wr (reads_own OPR.out) HY.out (.inr ⟨j, rfl, hjl, rfl⟩) (by omega)).mono ?_
              rintro e w6 ⟨v1, p1', hs1, rfl, hp1, hh1, ho1, hb6⟩
              have HP1 : Hid (PlR pay p1' ((hopsQ c (pay.drop j)).map Prod.snd)) := hp1
              have HH1 : Hid (∀ y l, hopsQ c (pay.drop j) = some (y, l) → hs1 = y) := hh1
              have O1 : Hid (w6.ownsRow w5.heap.size 87 2 v1 hs1.length (hs1.flatMap encH)) := own_lower ho1 (by omega)
              obtain ⟨v1a, v1c, rfl⟩ := (RowK.own encH_len ho1).shape
              have OPR6 : Hid (w6.ownsRow (w.heap.size + 1) 5 1 (.slice pa pay.length pc) pay.length (pay.map (Value.int .u8))) := own_below OPR.out hb6 (Nat.le_refl _)
              have B6 : Hid (Below wr.heap.size wr w6) := hb6
              have hs6 := hb6.size
              clear hp1 hh1 ho1 hb6 OPR
              go_wp2_with fail
              refine (hopsAt_uni _ pay p1' _ c w6 (reads_own OPR6.out) HY.out HP1.out (by omega)).mono ?_
              rintro e w7 ⟨v2, p2', hs2, rfl, hp2, hh2, ho2, hb7⟩
              have O2 : Hid (w7.ownsRow w5.heap.size 87 2 v2 hs2.length (hs2.flatMap encH)) := own_lower ho2 (by omega)
              obtain ⟨v2a, v2c, rfl⟩ := (RowK.own encH_len ho2).shape
              have O17 : Hid (w7.ownsRow w5.heap.size 87 2 (.slice v1a hs1.length v1c) hs1.length (hs1.flatMap encH)) := own_below O1.out hb7 (Nat.le_refl _)
              have B7 : Hid (Below wr.heap.size wr w7) := B6.out.trans (hb7.mono hs6)
              have hs7 := hb7.size
              clear OPR6 ho2 hb7 O1 B6
              have STEP : (p2' = -1 ∧ partsQ c M [] [] (pay.drop j0) = none) ∨ ∃ j2 : Nat, p2' = j2 ∧ j2 ≤ pay.length ∧ partsQ c M [] [] (pay.drop j0) = partsQ c t (os ++ [hs1]) (is ++ [hs2]) (pay.drop j2) ∧ hs1.length ≤ 600 ∧ hs2.length ≤ 600 := by
                rw [HE.out]
                have hbj : ∀ y ∈ pay.drop j, 0 ≤ y ∧ y ≤ 255 := fun y hy => HY.out y (List.mem_of_mem_drop hy)
                cases q1 : hopsQ c (pay.drop j) with
                | none =>
                  rw [q1] at hp2
                  rcases hp2 with ⟨h, _⟩ | ⟨_, _, _, h⟩
                  · exact .inl ⟨h, rfl⟩
                  · cases h
                | some x =>
                  obtain ⟨x, l1⟩ := x
                  have ex := HH1.out x l1 q1
                  subst ex
                  rw [q1, Option.map_some, Option.bind_some] at hp2 hh2
                  simp only [Option.bind_some]
                  have hl1 : ∀ y ∈ l1, 0 ≤ y ∧ y ≤ 255 := by
                    have h := q1
                    rw [hops_eq hbj, Option.filter_eq_some_iff] at h
                    exact (hopsC_bytes hbj h.1).1
                  cases q2 : hopsQ c l1 with
                  | none =>
                    rw [q2] at hp2
                    rcases hp2 with ⟨h, _⟩ | ⟨_, _, _, h⟩
                    · exact .inl ⟨h, rfl⟩
                    · cases h
                  | some y =>
                    obtain ⟨y, l2⟩ := y
                    have ey := hh2 y l2 q2
                    subst ey
                    rw [q2] at hp2
                    rcases hp2 with ⟨_, h⟩ | ⟨j2, h, hj2, h4⟩
                    · cases h
                    · injection h4 with h4
                      simp only at h4
                      subst h4
                      exact .inr ⟨j2, h, hj2, rfl, hopsQ_len hbj q1, hopsQ_len hl1 q2⟩
              clear hp2 hh2 HH1 HP1 HE
              rcases STEP with ⟨rfl, hn⟩ | ⟨j2, rfl, hj2, hst, hl1, hl2⟩
              · have hr := HF5.out (by rw [hn]; rfl)
                subst hr
                have PR7 : Hid (PB w7 w.heap.size (.int .i64 0) (.int .i64 0) (.int .i64 0) (.slice none 0 0) (.slice none 0 0)) := PRR.out.kept (Kept.of (S := fun _ => False) B7.out) fun h => h
                have BW7 : Hid (Below w.heap.size w w7) := BWR.out.trans (B7.out.mono (by omega))
                clear hn HF5 HF6
                have hq := PR7.out
                obtain ⟨e0, e1, e2, e3, e4⟩ := hq.cells
                have z0 := hq.frozen 0
                have z1 := hq.frozen 1
                have z2 := hq.frozen 2
                have z3 := hq.frozen 3
                have z4 := hq.frozen 4
                have RT : Hid _ := RET.out w7 (noP, 3) hq BW7.out rfl (by omega)
                clear hq RET
                go_wp2_with fail
                obtain ⟨h1, h2⟩ := RT.out
                obtain ⟨r0, r1, r2, r3, r4⟩ := PB.cells h1
                exact bodyPost_ret (v := .tuple #[.agg #[.int .i64 0, .int .i64 0, .int .i64 0, .slice none 0 0, .slice none 0 0], .int .i64 3]) (by simp [results, Try.results15, go_sem, r0, r1, r2, r3, r4]) rfl h2
              · have HE2 : Hid (partsQ c M [] [] (pay.drop j0) = partsQ c t (os ++ [hs1]) (is ++ [hs2]) (pay.drop j2)) := hst
                have HSO2 : Hid (sumL (os ++ [hs1]) ≤ 600 * (k + 1)) := by show _ ≤ _; rw [sumL_snoc]; have := HSO.out; omega
                have HSI2 : Hid (sumL (is ++ [hs2]) ≤ 600 * (k + 1)) := by show _ ≤ _; rw [sumL_snoc]; have := HSI.out; omega
                have HO2 : Hid (os.length + 1 = k + 1) := by show _ = _; rw [HOL.out]
                have HI2 : Hid (is.length + 1 = k + 1) := by show _ = _; rw [HIL.out]
                clear hst
                have PB7 := PBX.out.kept (Kept.of (S := fun _ => False) B7.out) fun h => h
                have OO7 := OO.out.kept (Kept.of (S := fun _ => False) B7.out) fun _ _ h => h
                have OI7 : Hid (OwnLs w7 w5.heap.size (.slice ya is.length yc) is) := OI.out.kept (Kept.of (S := fun _ => False) B7.out) fun _ _ h => h
                have HK7 : Hid (Kept (fun k => k = P) w5 w7) := HK.out.trans (.of B7.out)
                have PBY : Hid (PB w7 P (.int .i64 a) (.int .i64 b) (.int .i64 c) (.slice xa os.length xc) (.slice ya is.length yc)) := PB7
                have OOY : Hid (OwnLs w7 w5.heap.size (.slice xa os.length xc) os) := OO7
                obtain ⟨e0, e1, e2, e3, e4⟩ := PB7.cells
                have hP7 := PB7.lt
                clear PB7 OO7 OO OI PBX HK B7 PRR BWR
                go_wp2_with (at_builtin; refine wpList_append_ls rfl _ _ rfl w5.heap.size _ os rfl (OOY.out.kept (S := fun _ => False) ((Kept.refl _ _).alloc _) fun _ _ h => h) w7.heap.size (.slice v1a hs1.length v1c) hs1 rfl (0, 0) (box_new _ _ _) (O17.out.alloc _) (by omega) (by simp; omega) ?_)
                intro g8 c8 w8 hls8 hgr8 hli8
                have KA8 : Kept (fun k => w5.heap.size ≤ k) w7 w8 := ((Kept.refl _ _).alloc _).grown hgr8 fun k hk => .inl (by obtain ⟨vs, hr⟩ := OOY.out.row; exact (own_ge hr hk).1)
                have PB8 := PBY.out.kept KA8 (by omega)
                have OI8 : OwnLs w8 w5.heap.size (.slice ya is.length yc) is := by
                  obtain ⟨vs, hr⟩ := OOY.out.row
                  exact (OI7.out.kept (S := fun _ => False) ((Kept.refl _ _).alloc _) fun _ _ h => h).grown (hr.alloc _) hgr8 AP.out.symm.or
                have O28 : w8.ownsRow w5.heap.size 87 2 (.slice v2a hs2.length v2c) hs2.length (hs2.flatMap encH) := by
                  obtain ⟨vs, hr⟩ := OOY.out.row
                  exact (O2.out.alloc _).kept hgr8 (own_apart O2.out hr (by decide))
                have AP8 : Hid (Apt (.slice (some ⟨g8, 0, none⟩) (os.length + 1) c8) (.slice ya is.length yc)) := by
                  intro g h1 h2
                  injection h1 with h1
                  have h1' : g8 = g := h1
                  subst h1'
                  rcases hli8 with h3 | h3
                  · exact AP.out g8 h3 h2
                  · obtain ⟨vs, hr⟩ := OI7.out.row
                    have := (own_ge hr h2).2
                    try simp at h3
                    omega
                have HK8 : Hid (Kept (fun k => k = P) w5 (w8.setCell ⟨P, 3, none⟩ (.slice (some ⟨g8, 0, none⟩) (os.length + 1) c8))) := ((HK7.out.alloc _).grown hgr8 fun k hk => by
                  obtain ⟨vs, hr⟩ := OOY.out.row
                  exact .inr (own_ge hr hk).1).set (p := ⟨P, 3, none⟩) (.inl rfl) _
                have PBZ : Hid (PB (w8.setCell ⟨P, 3, none⟩ (.slice (some ⟨g8, 0, none⟩) (os.length + 1) c8)) P (.int .i64 a) (.int .i64 b) (.int .i64 c) (.slice (some ⟨g8, 0, none⟩) (os.length + 1) c8) (.slice ya is.length yc)) := PB8.set3 _
                have OOZ : Hid (OwnLs (w8.setCell ⟨P, 3, none⟩ (.slice (some ⟨g8, 0, none⟩) (os.length + 1) c8)) w5.heap.size (.slice (some ⟨g8, 0, none⟩) (os.length + 1) c8) (os ++ [hs1])) := hls8.box PB8 (by decide) (by decide)
                have OIZ : Hid (OwnLs (w8.setCell ⟨P, 3, none⟩ (.slice (some ⟨g8, 0, none⟩) (os.length + 1) c8)) w5.heap.size (.slice ya is.length yc) is) := OI8.box PB8 (by decide) (by decide)
                have O2Z : Hid ((w8.setCell ⟨P, 3, none⟩ (.slice (some ⟨g8, 0, none⟩) (os.length + 1) c8)).ownsRow w5.heap.size 87 2 (.slice v2a hs2.length v2c) hs2.length (hs2.flatMap encH)) := (Kept.box w8 P 3 _).own O28 fun g hg => own_block O28 hg PB8 (by decide)
                obtain ⟨f0, f1, f2, f3, f4⟩ := PB8.cells
                have z3 := PB8.frozen 3
                clear hls8 hgr8 hli8 KA8 PB8 OI8 O28 e0 e1 e2 e3 e4 PBY OOY OI7 O2 O17 HK7 AP
                go_upto_region 21 with fail
                clear f0 f1 f2 f3 f4 z3
                generalize w8.setCell ⟨P, 3, none⟩ (.slice (some ⟨g8, 0, none⟩) (os.length + 1) c8) = w9 at *
                obtain ⟨e0, e1, e2, e3, e4⟩ := PBZ.out.cells
                have hP9 := PBZ.out.lt
                have hs9 := HK8.out.size
                go_wp2_with (at_builtin; refine wpList_append_ls rfl _ _ rfl w5.heap.size _ is rfl (OIZ.out.kept (S := fun _ => False) ((Kept.refl _ _).alloc _) fun _ _ h => h) w9.heap.size (.slice v2a hs2.length v2c) hs2 rfl (0, 0) (box_new _ _ _) (O2Z.out.alloc _) (by omega) (by simp; omega) ?_)
                intro ga ca wa hlsA hgrA hliA
                have KAA : Kept (fun k => w5.heap.size ≤ k) w9 wa := ((Kept.refl _ _).alloc _).grown hgrA fun k hk => .inl (by obtain ⟨vs, hr⟩ := OIZ.out.row; exact (own_ge hr hk).1)
                have PBA := PBZ.out.kept KAA (by omega)
                have OOA : OwnLs wa w5.heap.size (.slice (some ⟨g8, 0, none⟩) (os.length + 1) c8) (os ++ [hs1]) := by
                  obtain ⟨vs, hr⟩ := OIZ.out.row
                  exact (OOZ.out.kept (S := fun _ => False) ((Kept.refl _ _).alloc _) fun _ _ h => h).grown (hr.alloc _) hgrA AP8.out.or
                have APA : Hid (Apt (.slice (some ⟨g8, 0, none⟩) (os.length + 1) c8) (.slice (some ⟨ga, 0, none⟩) (is.length + 1) ca)) := by
                  intro g h2 h1
                  injection h1 with h1
                  have h1' : ga = g := h1
                  subst h1'
                  rcases hliA with h3 | h3
                  · exact AP8.out ga h2 h3
                  · obtain ⟨vs, hr⟩ := OOZ.out.row
                    have := (own_ge hr h2).2
                    try simp at h3
                    omega
                have HKA : Hid (Kept (fun k => k = P) w5 (wa.setCell ⟨P, 4, none⟩ (.slice (some ⟨ga, 0, none⟩) (is.length + 1) ca))) := ((HK8.out.alloc _).grown hgrA fun k hk => by
                  obtain ⟨vs, hr⟩ := OIZ.out.row
                  exact .inr (own_ge hr hk).1).set (p := ⟨P, 4, none⟩) (.inl rfl) _
                have PBF : Hid (PB (wa.setCell ⟨P, 4, none⟩ (.slice (some ⟨ga, 0, none⟩) (is.length + 1) ca)) P (.int .i64 a) (.int .i64 b) (.int .i64 c) (.slice (some ⟨g8, 0, none⟩) (os.length + 1) c8) (.slice (some ⟨ga, 0, none⟩) (is.length + 1) ca)) := PBA.set4 _
                have OIF : Hid (OwnLs (wa.setCell ⟨P, 4, none⟩ (.slice (some ⟨ga, 0, none⟩) (is.length + 1) ca)) w5.heap.size (.slice (some ⟨ga, 0, none⟩) (is.length + 1) ca) (is ++ [hs2])) := hlsA.box PBA (by decide) (by decide)
                have OOF : Hid (OwnLs (wa.setCell ⟨P, 4, none⟩ (.slice (some ⟨ga, 0, none⟩) (is.length + 1) ca)) w5.heap.size (.slice (some ⟨g8, 0, none⟩) (os.length + 1) c8) (os ++ [hs1])) := OOA.box PBA (by decide) (by decide)
                obtain ⟨f0, f1, f2, f3, f4⟩ := PBA.cells
                have z4 := PBA.frozen 4
                have hsum1 : sumL os + hs1.length ≤ 1000000 := by omega
                have hsum2 : sumL is + hs2.length ≤ 1000000 := by omega
                have HS1 : Hid (sumL (os ++ [hs1]) = sumL os + hs1.length) := sumL_snoc _ _
                have HS2 : Hid (sumL (is ++ [hs2]) = sumL is + hs2.length) := sumL_snoc _ _
                clear hlsA hgrA hliA KAA PBA OOA e0 e1 e2 e3 e4 PBZ OOZ OIZ O2Z HK8 AP8
                generalize sumL os = so at *
                generalize sumL is = si at *
                go_wp2_with fail
                go_roundw
                case rel => exact ⟨k + 1, j2, os ++ [hs1], is ++ [hs2], _, _, by omega, by go_num, rfl, hj2, by rw [HS1.out]; go_num, by rw [HS2.out]; go_num, by rw [List.length_append]; exact HO2.out, by rw [List.length_append]; exact HI2.out, HSO2.out, HSI2.out, PBF.out, OOF.out, OIF.out, APA.out, by rw [HT.out]; exact HE2.out, HKA.out⟩
                case measure => simp [intOf]; omega
            · have hkM : M - k = 0 := by omega
              rw [hkM, partsQ] at HE
              clear hkM
              by_cases hend : j = pay.length
              · have hr0 : pay.drop j = [] := List.drop_eq_nil_of_le (by omega)
                have hne : ((j : Int) != (pay.length : Int)) = false := by rw [hend]; simp
                by_cases h6 : sumL os ≤ 600
                · have h6' : ¬ (600 : Int) < ((sumL os : Nat) : Int) := by omega
                  by_cases h7 : sumL is ≤ 600
                  · have h7' : ¬ (600 : Int) < ((sumL is : Nat) : Int) := by omega
                    have hr := HF6.out ⟨a, b, c, os, is⟩ (by rw [HE.out, Option.filter_some_pos (by unfold fewB; simp [h6, h7])]; simp [hr0])
                    subst hr
                    have hq := PRR.out
                    obtain ⟨e0, e1, e2, e3, e4⟩ := hq.cells
                    have z0 := hq.frozen 0
                    have z1 := hq.frozen 1
                    have z2 := hq.frozen 2
                    have z3 := hq.frozen 3
                    have z4 := hq.frozen 4
                    obtain ⟨f0, f1, f2, f3, f4⟩ := PBX.out.cells
                    have DN : Hid _ := put5 (a' := .int .i64 a) (b' := .int .i64 b) (c' := .int .i64 c) (x' := .slice xa os.length xc) (y' := .slice ya is.length yc) hq
                    clear hq RET HF5 HF6 HE hr0 hend
                    go_wp2_with fail
                    obtain ⟨h1, hk1⟩ := DN.out
                    obtain ⟨r0, r1, r2, r3, r4⟩ := PB.cells h1
                    refine bodyPost_ret (v := .tuple #[.agg #[.int .i64 a, .int .i64 b, .int .i64 c, .slice xa os.length xc, .slice ya is.length yc], .int .i64 0]) (by simp [results, Try.results15, go_sem, r0, r1, r2, r3, r4]) rfl ⟨_, rfl, ⟨_, _, rfl, ?_, ?_⟩, ?_⟩
                    · exact (OO.out.kept hk1 fun g hg h => by omega).reads
                    · exact (OI.out.kept hk1 fun g hg h => by omega).reads
                    · exact BWR.out.trans (hk1.below (by omega) fun k hk => by omega)
                  · have h7' : (600 : Int) < ((sumL is : Nat) : Int) := by omega
                    have hr := HF5.out (by rw [HE.out, Option.filter_some_neg (by unfold fewB; simp [h7])]; rfl)
                    subst hr
                    clear HF5 HF6 HE hr0 hend
                    have hq := PRR.out
                    obtain ⟨e0, e1, e2, e3, e4⟩ := hq.cells
                    have z0 := hq.frozen 0
                    have z1 := hq.frozen 1
                    have z2 := hq.frozen 2
                    have z3 := hq.frozen 3
                    have z4 := hq.frozen 4
                    have RT : Hid _ := RET.out wr (noP, 3) hq BWR.out rfl (by omega)
                    clear hq RET
                    go_wp2_with fail
                    obtain ⟨h1, h2⟩ := RT.out
                    obtain ⟨r0, r1, r2, r3, r4⟩ := PB.cells h1
                    exact bodyPost_ret (v := .tuple #[.agg #[.int .i64 0, .int .i64 0, .int .i64 0, .slice none 0 0, .slice none 0 0], .int .i64 3]) (by simp [results, Try.results15, go_sem, r0, r1, r2, r3, r4]) rfl h2
                · have h6' : (600 : Int) < ((sumL os : Nat) : Int) := by omega
                  have hr := HF5.out (by rw [HE.out, Option.filter_some_neg (by unfold fewB; simp [h6])]; rfl)
                  subst hr
                  clear HF5 HF6 HE hr0 hend
                  have hq := PRR.out
                  obtain ⟨e0, e1, e2, e3, e4⟩ := hq.cells
                  have z0 := hq.frozen 0
                  have z1 := hq.frozen 1
                  have z2 := hq.frozen 2
                  have z3 := hq.frozen 3
                  have z4 := hq.frozen 4
                  have RT : Hid _ := RET.out wr (noP, 3) hq BWR.out rfl (by omega)
                  clear hq RET
                  go_wp2_with fail
                  obtain ⟨h1, h2⟩ := RT.out
                  obtain ⟨r0, r1, r2, r3, r4⟩ := PB.cells h1
                  exact bodyPost_ret (v := .tuple #[.agg #[.int .i64 0, .int .i64 0, .int .i64 0, .slice none 0 0, .slice none 0 0], .int .i64 3]) (by simp [results, Try.results15, go_sem, r0, r1, r2, r3, r4]) rfl h2
              · have hne : ((j : Int) != (pay.length : Int)) = true := by simp; omega
                have hr0 : pay.drop j ≠ [] := fun h => by have := congrArg List.length h; simp at this; omega
                have hr := HF5.out (by
                  rw [HE.out]
                  cases hfw : fewB (os, is, pay.drop j)
                  · rw [Option.filter_some_neg (by simp [hfw])]; rfl
                  · rw [Option.filter_some_pos hfw, Option.bind_some]; exact if_neg hr0)
                subst hr
                clear HF5 HF6 HE hr0 hend
                have hq := PRR.out
                obtain ⟨e0, e1, e2, e3, e4⟩ := hq.cells
                have z0 := hq.frozen 0
                have z1 := hq.frozen 1
                have z2 := hq.frozen 2
                have z3 := hq.frozen 3
                have z4 := hq.frozen 4
                have RT : Hid _ := RET.out wr (noP, 3) hq BWR.out rfl (by omega)
                clear hq RET
                go_wp2_with fail
                obtain ⟨h1, h2⟩ := RT.out
                obtain ⟨r0, r1, r2, r3, r4⟩ := PB.cells h1
                exact bodyPost_ret (v := .tuple #[.agg #[.int .i64 0, .int .i64 0, .int .i64 0, .slice none 0 0, .slice none 0 0], .int .i64 3]) (by simp [results, Try.results15, go_sem, r0, r1, r2, r3, r4]) rfl h2
        · rw [if_neg hab] at HPH
          have hab2 : b ≤ a := by omega
          have hr := HG3.out HPH.out
          subst hr
          clear HG3 HG5 HPH HD hh
          have hq := PR1.out
          obtain ⟨e0, e1, e2, e3, e4⟩ := hq.cells
          have z0 := hq.frozen 0
          have z1 := hq.frozen 1
          have z2 := hq.frozen 2
          have z3 := hq.frozen 3
          have z4 := hq.frozen 4
          have RT : Hid _ := RET.out w4 (noP, 3) hq BW1.out rfl (by omega)
          clear hq RET
          go_wp2_with fail
          obtain ⟨h1, h2⟩ := RT.out
          obtain ⟨r0, r1, r2, r3, r4⟩ := PB.cells h1
          exact bodyPost_ret (v := .tuple #[.agg #[.int .i64 0, .int .i64 0, .int .i64 0, .slice none 0 0, .slice none 0 0], .int .i64 3]) (by simp [results, Try.results15, go_sem, r0, r1, r2, r3, r4]) rfl h2
      · have hul : ((u : Int) != (L : Int)) = true := by simp; omega
        have hr := HG2.out hu
        subst hr
        clear HG2 HG3 HG4 HPH HD hh
        have hq := PR1.out
        obtain ⟨e0, e1, e2, e3, e4⟩ := hq.cells
        have z0 := hq.frozen 0
        have z1 := hq.frozen 1
        have z2 := hq.frozen 2
        have z3 := hq.frozen 3
        have z4 := hq.frozen 4
        have RT : Hid _ := RET.out w4 (noP, 3) hq BW1.out rfl (by omega)
        clear hq RET
        go_wp2_with fail
        obtain ⟨h1, h2⟩ := RT.out
        obtain ⟨r0, r1, r2, r3, r4⟩ := PB.cells h1
        exact bodyPost_ret (v := .tuple #[.agg #[.int .i64 0, .int .i64 0, .int .i64 0, .slice none 0 0, .slice none 0 0], .int .i64 3]) (by simp [results, Try.results15, go_sem, r0, r1, r2, r3, r4]) rfl h2
  · have hr := HF1.out hf
    subst hr
    have hne : (fe != 0) = true := by simpa using hf
    have hq := PR1.out
    obtain ⟨e0, e1, e2, e3, e4⟩ := hq.cells
    have z0 := hq.frozen 0
    have z1 := hq.frozen 1
    have z2 := hq.frozen 2
    have z3 := hq.frozen 3
    have z4 := hq.frozen 4
    have RT : Hid _ := RET.out w1 (noP, fe) hq BW1.out rfl (by omega)
    clear hq RET HF1 HF2 HF3 HF4
    go_wp2_with fail
    obtain ⟨h1, h2⟩ := RT.out
    obtain ⟨r0, r1, r2, r3, r4⟩ := PB.cells h1
    exact bodyPost_ret (v := .tuple #[.agg #[.int .i64 0, .int .i64 0, .int .i64 0, .slice none 0 0, .slice none 0 0], .int .i64 fe]) (by simp [results, Try.results15, go_sem, r0, r1, r2, r3, r4]) rfl h2
end Go.Proofs.Ytacpicnihgggaaa
