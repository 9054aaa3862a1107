/-
  Contract of frame.All: the payloads and the count of bytes that P2.4 names, in memory of its own; nothing that was there is written.
-/
import Derived.Test.YtjagefchoggbaabUnwrapWalk
namespace Go.Proofs.Ytjagefchoggbaab
open Go.ChangeShapes Go.WideShapes Go.ChangeAt Go.RowKit

/-- P2.4, frame by frame: u bytes are behind us, they made the payloads out. -/
def allR (xs : List Int) : Nat → Nat → List (List Int) → List (List Int) × Nat
  | 0, u, out => (out, u)
  | f + 1, u, out => if (unwrapF (xs.drop u)).2.2 ≠ 0 then (out, u) else allR xs f (u + (unwrapF (xs.drop u)).2.1) (out ++ [(unwrapF (xs.drop u)).1])
/-- P2.4 -/
def allF (xs : List Int) : List (List Int) × Nat := allR xs (xs.length + 1) 0 []
theorem allR_stop {xs : List Int} {f u : Nat} {out : List (List Int)} (hf : 0 < f) (h : (unwrapF (xs.drop u)).2.2 ≠ 0) : allR xs f u out = (out, u) := by
  cases f with
  | zero => omega
  | succ f => rw [allR, if_pos h]
theorem allR_go {xs : List Int} {f u : Nat} {out : List (List Int)} (h : (unwrapF (xs.drop u)).2.2 = 0) : allR xs (f + 1) u out = allR xs f (u + (unwrapF (xs.drop u)).2.1) (out ++ [(unwrapF (xs.drop u)).1]) := by
  rw [allR, if_neg (by simp [h])]
/-- A frame that is had has five bytes or more, and no more than there are. -/
theorem unwrapF_use {ys : List Int} (hx : ∀ x ∈ ys, 0 ≤ x ∧ x ≤ 255) (h : (unwrapF ys).2.2 = 0) : 5 ≤ (unwrapF ys).2.1 ∧ (unwrapF ys).2.1 ≤ ys.length := by
  rcases get_inv hx with ⟨e, hg, he⟩ | ⟨n, r, hg, hr, hn0, hn1⟩
  · rw [unwrapF_err hg he] at h
    exact absurd h he
  · obtain ⟨m, rfl⟩ := Int.eq_ofNat_of_zero_le hn0
    have pl := put_len (m : Int)
    by_cases hbig : 20000 < (m : Int)
    · rw [unwrapF_size hg hbig] at h
      exact absurd h (by decide)
    · by_cases hsh : ys.length < (put (m : Int)).length + m + 4
      · rw [unwrapF_short hg (by omega) hsh] at h
        exact absurd h (by decide)
      · by_cases hs : four (crc (ys.take ((put (m : Int)).length + m))) = (ys.drop ((put (m : Int)).length + m)).take 4
        · rw [unwrapF_ok hg (by omega) (by omega) hs]
          show 5 ≤ (put (m : Int)).length + m + 4 ∧ (put (m : Int)).length + m + 4 ≤ ys.length
          omega
        · rw [unwrapF_sum hg (by omega) (by omega) hs] at h
          exact absurd h (by decide)

theorem Try.infoB : (Try.prog.info? 23).map (fun i => (i.zero, i.size, i.bytes)) = some (some (.slice none 0 0), 1, 24) := by kernel_rfl

/-- A list of slices of bytes, each with its own memory. -/
def Lists (w : World) (base : Nat) (v : Value) (out : List (List Int)) : Prop :=
  ∃ vs : List Value, vs.length = out.length ∧ w.ownsRow base 23 1 v out.length vs ∧ ∀ i, i < out.length → w.ownsRow base 5 1 (vs.getD i undef) (out.getD i []).length ((out.getD i []).map (Value.int .u8))
theorem Lists.nil (w : World) (base : Nat) : Lists w base (.slice none 0 0) [] := ⟨[], rfl, World.ownsRow_nil _ _ _ _, fun i hi => by simp at hi⟩
theorem Lists.below {w w' : World} {base B : Nat} {v : Value} {out : List (List Int)} (h : Lists w base v out) (hb : Below B w w') (hB : w.heap.size ≤ B) : Lists w' base v out := by
  obtain ⟨vs, h1, h2, h3⟩ := h
  exact ⟨vs, h1, own_below h2 hb hB, fun i hi => own_below (h3 i hi) hb hB⟩
theorem Lists.alloc {w : World} {base : Nat} {v : Value} {out : List (List Int)} (h : Lists w base v out) (o : Obj) : Lists (w.alloc o) base v out := h.below ((Below.refl _ _).alloc (Nat.le_refl _) o) (Nat.le_refl _)
theorem Lists.lower {w : World} {base B : Nat} {v : Value} {out : List (List Int)} (h : Lists w B v out) (hB : base ≤ B) : Lists w base v out := by
  obtain ⟨vs, h1, h2, h3⟩ := h
  exact ⟨vs, h1, own_lower h2 hB, fun i hi => own_lower (h3 i hi) hB⟩
theorem own_apart {w : World} {b b' n n' : Nat} {v v' : Value} {xs xs' : List Value} (h : w.ownsRow b 5 1 v n xs) (h' : w.ownsRow b' 23 1 v' n' xs') : v.ownBlock = none ∨ v.ownBlock ≠ v'.ownBlock := by
  rcases h.2 with ⟨hv, _⟩ | ⟨g, cap, cur, hv, _, hgg, _⟩
  · subst hv; exact .inl rfl
  · subst hv
    refine .inr fun e => ?_
    rcases h'.2 with ⟨hv', _⟩ | ⟨g', cap', cur', hv', _, hgg', _⟩
    · subst hv'; cases e
    · subst hv'
      injection e with e
      have e' : g = g' := e
      subst e'
      rw [hgg] at hgg'
      injection hgg' with hgg'
      injection hgg' with _ ht _
      exact absurd ht (by decide)
theorem own_one {w : World} {base n : Nat} {e : TypeId} {v : Value} {xs : List Value} (h : w.ownsRow base e 1 v n xs) : v.oneCell' = true := by
  rcases own_cases h with ⟨rfl, _⟩ | ⟨g, cap, rfl, _⟩ <;> rfl

/-- 'append(s, p)' where s is a list of slices of the call's own, and p a slice of the call's own. -/
theorem wpList_append_rows {w : World} {ops : Array Oper} {rest : List Oper} {o : Oper} {a : Act} {Q : Exit → Act → World → Prop} (hgd : o.guard = none) (s x : Operand)
    (ho : o.op = .call { callee := .builtin .append, args := #[s, x], argTypes := #[22, 22] })
    (base : Nat) (v : Value) (out : List (List Int)) (hs : a.eval s = v) (hrows : Lists w base v out)
    (g : Nat) (p : Value) (xs : List Int) (hx : a.eval x = .slice (some ⟨g, 0, none⟩) 1 1) (hcell : w.cell? ⟨g, 0, none⟩ = some p) (hp : w.ownsRow base 5 1 p xs.length (xs.map (Value.int .u8)))
    (hlen : (out.length + 1) * 24 ≤ 140737488355328) (hbase : base ≤ w.heap.size)
    (h : ∀ v' w', Lists w' base v' (out ++ [xs]) → Below base w w' → wpList Try.prog ops Q rest (a.put o.dst v') w') : wpList Try.prog ops Q (o :: rest) a w := by
  obtain ⟨i0, hi, hz0, hz1, hz2⟩ := info_parts Try.infoB
  obtain ⟨vs, hvl, hown, hel⟩ := hrows
  refine wpList_append_own w hgd s x 22 ho base 23 i0 (.slice none 0 0) 1 24 Try.underlying22 hi hz0 hz1 hz2 rfl (by decide) v out.length vs hs hown ⟨g, 0, none⟩ 1 1 [p] hx rfl ?_ ?_ (by unfold maxLen; omega) hlen hbase ?_
  · intro j u hj
    cases j with
    | zero =>
      simp at hj
      subst hj
      have hadd : (⟨g, 0, none⟩ : Addr).add 0 = ⟨g, 0, none⟩ := by unfold Addr.add; split <;> simp_all
      rw [hadd]; exact hcell
    | succ j => simp at hj
  · intro u hu
    simp at hu
    subst hu
    exact own_one hp
  · intro v' w' h2 h3 _
    refine h v' w' ⟨vs ++ [p], by simp [hvl], by simpa using h2, fun i hi => ?_⟩ ((Below.refl _ _).grown h3 hbase (fun k hk => (hown.lt k hk).1))
    by_cases hlt : i < out.length
    · have e1 : (vs ++ [p]).getD i undef = vs.getD i undef := by rw [List.getD_eq_getElem?_getD, List.getD_eq_getElem?_getD, List.getElem?_append_left (by omega)]
      have e2 : (out ++ [xs]).getD i [] = out.getD i [] := by rw [List.getD_eq_getElem?_getD, List.getD_eq_getElem?_getD, List.getElem?_append_left hlt]
      rw [e1, e2]
      exact (hel i hlt).kept h3 (own_apart (hel i hlt) hown)
    · have e0 : i = out.length := by simp at hi; omega
      subst e0
      have e1 : (vs ++ [p]).getD out.length undef = p := by rw [List.getD_eq_getElem?_getD, ← hvl]; simp
      have e2 : (out ++ [xs]).getD out.length [] = xs := by rw [List.getD_eq_getElem?_getD]; simp
      rw [e1, e2]
      exact hp.kept h3 (own_apart hp hown)
theorem cell_new0 (w : World) (v : Value) (t : TypeId) : (w.alloc (.cells #[v] t)).cell? ⟨w.heap.size, 0, none⟩ = some v := by
  rw [World.cell?_alloc_new]; rfl

set_option maxHeartbeats 800000 in
set_option maxRecDepth 100000 in
theorem all_row (b off cap : Nat) (xs : List Int) (w : World) (hn : 0 < xs.length) (hc : xs.length ≤ cap) (hm : cap ≤ maxLen) (hbw : b < w.heap.size) (hl : xs.length ≤ 1000000000000) (hx : ∀ x ∈ xs, 0 ≤ x ∧ x ≤ 255)
    (hcell : ∀ i, i < xs.length → w.cell? ⟨b, off + i, none⟩ = some (.int .u8 (xs.getD i 0))) :
    Calls Try.prog 8 #[.slice (some ⟨b, off, none⟩) xs.length cap] w fun e w' =>
      ∃ v', e = .returned (.tuple #[v', .int .i64 (allF xs).2]) ∧ Lists w' w.heap.size v' (allF xs).1 ∧ Below w.heap.size w w' := by
  have HM : Hid (cap ≤ maxLen) := hm
  unfold maxLen at hm
  have HX : Hid (∀ x ∈ xs, 0 ≤ x ∧ x ≤ 255) := hx
  have HC : Hid (∀ i, i < xs.length → w.cell? ⟨b, off + i, none⟩ = some (.int .u8 (xs.getD i 0))) := hcell
  clear hcell hx
  go_enter Try.func8, Try.ntmps8
  go_wp2_with fail
  refine (newTable_any _).mono ?_
  rintro e w1 ⟨rfl, hT, hbel1, hsz⟩
  have HT : Hid (Tab w1 w.heap.size) := hT
  have B1 : Hid (Below w.heap.size w w1) := hbel1
  have hs1 := hbel1.size
  have HC1 : Hid (∀ i, i < xs.length → w1.cell? ⟨b, off + i, none⟩ = some (.int .u8 (xs.getD i 0))) := fun i hi => (B1.out.cell (by exact hbw)).trans (HC.out i hi)
  clear hT hbel1
  go_wp2_with fail
  go_loopw [5, 6] (fun l i wr => ∃ (u f : Nat) (out : List (List Int)), u ≤ xs.length ∧ out.length ≤ u ∧ xs.length < u + f ∧ i = .int .i64 u ∧ Lists wr w1.heap.size l out ∧ allR xs f u out = allF xs ∧ Below w1.heap.size w1 wr) (fun _ i _ => xs.length - (intOf i).toNat)
  case atStart => exact ⟨0, xs.length + 1, [], by omega, by simp, by omega, rfl, Lists.nil _ _, rfl, Below.refl _ _⟩
  case round =>
    obtain ⟨u, f, out, hu, hou, hf, rfl, hrows, hall, hbel⟩ := hrel
    have HR : Hid (Lists wr w1.heap.size u5 out) := hrows
    have HA : Hid (allR xs f u out = allF xs) := hall
    have HB : Hid (Below w1.heap.size w1 wr) := hbel
    have hsr := hbel.size
    have HXD : Hid (∀ x ∈ xs.drop u, 0 ≤ x ∧ x ≤ 255) := fun x hx => HX.out x (List.mem_of_mem_drop hx)
    have RD : Hid (Reads .u8 wr (.slice (some ⟨b, off + u, none⟩) (xs.length - u) (cap - u)) (xs.drop u)) := by
      have h1 := (reads_mid (u := u) (n := xs.length) hc HM.out hu (Nat.le_refl _) HC1.out).below HB.out (Nat.le_refl _)
      rwa [List.take_of_length_le (by rw [List.length_drop]; omega)] at h1
    have HTr : Hid (Tab wr w.heap.size) := HT.out.below HB.out (Nat.le_refl _)
    clear hrows hall hbel
    by_cases hcu : u < cap
    · have hcu' : (u : Int) < (cap : Int) := by omega
      go_wp2_with fail
      refine (unwrap_tab w.heap.size _ (xs.drop u) _ HTr.out RD.out HXD.out).mono ?_
      rintro e w2 ⟨v2, rfl, hown2, hbel2⟩
      have O2 : Hid (w2.ownsRow wr.heap.size 5 1 v2 (unwrapF (xs.drop u)).1.length ((unwrapF (xs.drop u)).1.map (Value.int .u8))) := hown2
      have R2 : Hid (Lists w2 w1.heap.size u5 out) := HR.out.below hbel2 (Nat.le_refl _)
      have B2 : Hid (Below w1.heap.size w1 w2) := HB.out.trans (hbel2.mono hsr)
      have hs2 := B2.out.size
      clear hown2 hbel2
      by_cases hok : (unwrapF (xs.drop u)).2.2 = 0
      · have huse := unwrapF_use HXD.out hok
        rw [List.length_drop] at huse
        have HG : Hid (allR xs f u out = allR xs (f - 1) (u + (unwrapF (xs.drop u)).2.1) (out ++ [(unwrapF (xs.drop u)).1])) := by
          show _ = _
          obtain ⟨f', rfl⟩ : ∃ f', f = f' + 1 := ⟨f - 1, by omega⟩
          rw [allR_go hok]; rfl
        generalize hq : unwrapF (xs.drop u) = q at *
        obtain ⟨q1, q2, q3⟩ := q
        have hok' : q3 = 0 := hok
        subst hok'
        have h5 : 5 ≤ q2 ∧ q2 ≤ xs.length - u := huse
        have HG2 : Hid (allR xs f u out = allR xs (f - 1) (u + q2) (out ++ [q1])) := HG.out
        have O3 : Hid (w2.ownsRow w1.heap.size 5 1 v2 q1.length (q1.map (Value.int .u8))) := own_lower O2.out hsr
        clear hq huse hok HG O2
        obtain ⟨va, vn, vc, rfl⟩ : ∃ va vn vc, v2 = .slice va vn vc := by rcases own_cases O3.out with ⟨h, _⟩ | ⟨g3, c3, h, _⟩ <;> exact ⟨_, _, _, h⟩
        go_wp2_with (at_builtin; refine wpList_append_rows rfl _ _ rfl w1.heap.size _ out rfl (R2.out.alloc _) w2.heap.size (.slice va vn vc) q1 rfl (cell_new0 _ _ 23) (O3.out.alloc _) (by omega) (by simp; omega) ?_)
        intro v4 w4 hrows4 hbel4
        have R4 : Hid (Lists w4 w1.heap.size v4 (out ++ [q1])) := hrows4
        have B4 : Hid (Below w1.heap.size w1 w4) := (B2.out.alloc hs2 _).trans hbel4
        clear hrows4 hbel4
        go_wp2
        go_roundw
        case rel => exact ⟨u + q2, f - 1, out ++ [q1], by omega, by simp; omega, by omega, by go_num, R4.out, by rw [← HG2.out]; exact HA.out, B4.out⟩
        case measure => simp [intOf]; omega
      · have HS : Hid (allF xs = (out, u)) := by show _ = _; rw [← HA.out, allR_stop (by omega) hok]
        have hne : ((unwrapF (xs.drop u)).2.2 != 0) = true := by simp [hok]
        generalize unwrapF (xs.drop u) = q at *
        obtain ⟨q1, q2, q3⟩ := q
        have hne' : (q3 != 0) = true := hne
        clear hne hok O2
        go_wp2_with fail
        go_ret2
        exact ⟨_, by rw [HS.out]; rfl, by rw [HS.out]; exact R2.out.lower hs1, B1.out.trans (B2.out.mono hs1)⟩
    · have hue : u = cap ∧ u = xs.length := by omega
      obtain ⟨rfl, hue⟩ := hue
      have hdr : xs.drop u = [] := List.drop_eq_nil_of_le (by omega)
      have hun : unwrapF [] = ([], 0, 4) := by decide
      have HS : Hid (allF xs = (out, u)) := by show _ = _; rw [← HA.out, allR_stop (by omega) (by rw [hdr, hun]; decide)]
      have HSE : Hid (allF xs = (out, xs.length)) := by show _ = _; rw [HS.out, hue]
      have HTT : Hid (∀ (a : Option Addr) (c : Nat), c ≤ maxLen → (a = none → c = 0) → Reads .u8 wr (.slice a 0 c) []) := fun a c h1 h2 => ⟨a, c, rfl, by simp, h1, h2, fun x hx i hi => by simp at hi⟩
      have HUN : Hid (unwrapF [] = ([], 0, 4)) := hun
      clear RD HXD hdr hun
      go_wp2_with fail
      refine (unwrap_tab w.heap.size _ [] _ HTr.out (HTT.out _ _ (by simp [maxLen]) (fun h => by cases h)) (by simp)).mono ?_
      rintro e w2 ⟨v2, rfl, _, hbel2⟩
      rw [HUN.out]
      have R2 : Hid (Lists w2 w1.heap.size u5 out) := HR.out.below hbel2 (Nat.le_refl _)
      have B2 : Hid (Below w1.heap.size w1 w2) := HB.out.trans (hbel2.mono hsr)
      clear hbel2
      go_wp2_with fail
      go_ret2
      exact ⟨_, by rw [HSE.out]; rfl, by rw [HSE.out]; exact R2.out.lower hs1, B1.out.trans (B2.out.mono hs1)⟩

set_option maxHeartbeats 400000 in
set_option maxRecDepth 100000 in
theorem all_empty (a : Option Addr) (cap : Nat) (w : World) (hm : cap ≤ maxLen) (ha : a = none → cap = 0) :
    Calls Try.prog 8 #[.slice a 0 cap] w fun e w' =>
      ∃ v', e = .returned (.tuple #[v', .int .i64 (allF []).2]) ∧ Lists w' w.heap.size v' (allF []).1 ∧ Below w.heap.size w w' := by
  have hall : allF [] = ([], 0) := by decide
  have HS : Hid (allF [] = ([], 0)) := hall
  have HUN : Hid (unwrapF [] = ([], 0, 4)) := show unwrapF [] = ([], 0, 4) from by decide
  have HM : Hid (cap ≤ maxLen) := hm
  have HTT : Hid (∀ (wr : World) (a : Option Addr) (c : Nat), c ≤ maxLen → (a = none → c = 0) → Reads .u8 wr (.slice a 0 c) []) := fun wr a c h1 h2 => ⟨a, c, rfl, by simp, h1, h2, fun x hx i hi => by simp at hi⟩
  clear hall
  unfold maxLen at hm
  have fin : ∀ (x : Option Addr) (c : Nat), (a = x ∧ c = cap) → Hid (c ≤ maxLen ∧ (x = none → c = 0)) := fun x c h => ⟨by rw [h.2]; exact HM.out, fun e => by rw [h.2]; exact ha (h.1.trans e)⟩
  rcases (show (a = none ∧ cap = 0) ∨ (∃ x, a = some x ∧ cap = 0) ∨ ∃ x, a = some x ∧ 0 < cap from by
    cases a with
    | none => exact .inl ⟨rfl, ha rfl⟩
    | some x => rcases Nat.eq_zero_or_pos cap with h | h
                · exact .inr (.inl ⟨x, rfl, h⟩)
                · exact .inr (.inr ⟨x, rfl, h⟩)) with ⟨rfl, rfl⟩ | ⟨x, rfl, rfl⟩ | ⟨x, rfl, hpos⟩
  all_goals
    clear ha fin
    go_enter Try.func8, Try.ntmps8
    go_wp2_with fail
    refine (newTable_any _).mono ?_
    rintro e w1 ⟨rfl, hT, hbel1, hsz⟩
    have HT : Hid (Tab w1 w.heap.size) := hT
    have hs1 := hbel1.size
    clear hT
    go_wp2_with fail
    refine wp_loop_rounds 1 ?_
    rw [rounds_succ]
    go_wp2_with fail
    refine (unwrap_tab w.heap.size _ [] _ HT.out (HTT.out _ _ _ (by first | exact HM.out | simp [maxLen]) (fun h => by first | rfl | cases h)) (by simp)).mono ?_
    rintro e w2 ⟨v2, rfl, _, hbel2⟩
    rw [HUN.out]
    go_wp2_with fail
    go_ret2
    exact ⟨_, by rw [HS.out]; rfl, by rw [HS.out]; exact Lists.nil _ _, hbel1.trans (hbel2.mono hs1)⟩

theorem all_any (v : Value) (xs : List Int) (w : World) (h : Reads .u8 w v xs) (hx : ∀ x ∈ xs, 0 ≤ x ∧ x ≤ 255) (hl : xs.length ≤ 1000000000000) :
    Calls Try.prog 8 #[v] w fun e w' =>
      ∃ v', e = .returned (.tuple #[v', .int .i64 (allF xs).2]) ∧ Lists w' w.heap.size v' (allF xs).1 ∧ Below w.heap.size w w' := by
  by_cases hn : 0 < xs.length
  · obtain ⟨b, off, cap, rfl, hc, hm, hb, hcell⟩ := h.plain hn
    exact all_row b off cap xs w hn hc hm hb hl hx hcell
  · have : xs = [] := List.eq_nil_of_length_eq_zero (by omega)
    subst this
    obtain ⟨a, cap, rfl, hm, ha⟩ := h.empty
    exact all_empty a cap w hm ha

theorem allR_bytes {xs : List Int} (hx : ∀ x ∈ xs, 0 ≤ x ∧ x ≤ 255) : ∀ (f u : Nat) (out : List (List Int)), (∀ p ∈ out, ∀ x ∈ p, 0 ≤ x ∧ x ≤ 255) → ∀ p ∈ (allR xs f u out).1, ∀ x ∈ p, 0 ≤ x ∧ x ≤ 255
  | 0, _, _, h => h
  | f + 1, u, out, h => by
    rw [allR]
    split
    · exact h
    · refine allR_bytes hx f _ _ ?_
      intro p hp
      rcases List.mem_append.1 hp with h1 | h1
      · exact h p h1
      · simp at h1
        subst h1
        exact unwrapF_bytes (fun x hx' => hx x (List.mem_of_mem_drop hx'))
theorem allF_bytes {xs : List Int} (hx : ∀ x ∈ xs, 0 ≤ x ∧ x ≤ 255) : ∀ p ∈ (allF xs).1, ∀ x ∈ p, 0 ≤ x ∧ x ≤ 255 := allR_bytes hx _ _ _ (by simp)
end Go.Proofs.Ytjagefchoggbaab
