/-
  Contracts of the document's own AllOf and of sameList: AllOf answers P2.4; sameList tells that two lists of slices with the same bytes are the same.
-/
import Derived.Test.YtjagefchoggbaaaAllWalk
import Derived.Test.YtjagefchoggbaaaUnwrappedWalk
namespace Go.Proofs.Ytjagefchoggbaaa
open Go.ChangeShapes Go.WideShapes Go.ChangeAt Go.RowKit

set_option maxHeartbeats 800000 in
set_option maxRecDepth 100000 in
theorem allOf_row (b off cap : Nat) (xs : List Int) (w : World) (hn : 0 < xs.length) (hc : xs.length ≤ cap) (hm : cap ≤ maxLen) (hl : xs.length ≤ 1000000000000) (hx : ∀ x ∈ xs, 0 ≤ x ∧ x ≤ 255)
    (hcell : ∀ i, i < xs.length → w.cell? ⟨b, off + i, none⟩ = some (.int .u8 (xs.getD i 0))) :
    Calls Try.prog 18 #[.slice (some ⟨b, off, none⟩) xs.length cap] w fun e w' =>
      ∃ v', e = .returned (.tuple #[v', .int .i64 (allF xs).2]) ∧ Lists w' w.heap.size v' (allF xs).1 ∧ Below w.heap.size w w' := by
  have HM : Hid (cap ≤ maxLen) := hm
  unfold maxLen at hm
  have HX : Hid (∀ x ∈ xs, 0 ≤ x ∧ x ≤ 255) := hx
  have HC1 : Hid (∀ i, i < xs.length → w.cell? ⟨b, off + i, none⟩ = some (.int .u8 (xs.getD i 0))) := hcell
  clear hcell hx
  go_enter Try.func18, Try.ntmps18
  go_wp2_with fail
  go_loopw [4, 5] (fun l i wr => ∃ (u f : Nat) (out : List (List Int)), u ≤ xs.length ∧ out.length ≤ u ∧ xs.length < u + f ∧ i = .int .i64 u ∧ Lists wr w.heap.size l out ∧ allR xs f u out = allF xs ∧ Below w.heap.size w wr) (fun _ i _ => xs.length - (intOf i).toNat)
  case atStart => exact ⟨0, xs.length + 1, [], by omega, by simp, by omega, rfl, Lists.nil _ _, rfl, Below.refl _ _⟩
  case round =>
    obtain ⟨u, f, out, hu, hou, hf, rfl, hrows, hall, hbel⟩ := hrel
    have HR : Hid (Lists wr w.heap.size u4 out) := hrows
    have HA : Hid (allR xs f u out = allF xs) := hall
    have HB : Hid (Below w.heap.size w wr) := hbel
    have hsr := hbel.size
    clear hrows hall hbel
    by_cases hend : u = xs.length
    · have hdr : xs.drop u = [] := List.drop_eq_nil_of_le (by omega)
      have hun : unwrapF [] = ([], 0, 4) := by decide
      have HS : Hid (allF xs = (out, u)) := by show _ = _; rw [← HA.out, allR_stop (by omega) (by rw [hdr, hun]; decide)]
      have heq : ((u : Int) == (xs.length : Int)) = true := by simp; omega
      clear hdr hun hend
      go_wp2_with fail
      go_ret2
      exact ⟨_, by rw [HS.out]; rfl, by rw [HS.out]; exact HR.out, HB.out⟩
    · have hlt : u < xs.length := by omega
      have heq : ((u : Int) == (xs.length : Int)) = false := by simp; omega
      have hcu : u < cap := by omega
      have hcu' : (u : Int) < (cap : Int) := by omega
      have HXD : Hid (∀ x ∈ xs.drop u, 0 ≤ x ∧ x ≤ 255) := fun x hx => HX.out x (List.mem_of_mem_drop hx)
      have RD : Hid (Reads .u8 wr (.slice (some ⟨b, off + u, none⟩) (xs.length - u) (cap - u)) (xs.drop u)) := by
        have h1 := (reads_mid (u := u) (n := xs.length) hc HM.out hu (Nat.le_refl _) HC1.out).below HB.out (Nat.le_refl _)
        rwa [List.take_of_length_le (by rw [List.length_drop]; omega)] at h1
      clear hend
      go_wp2_with fail
      refine (unwrapped_any _ (xs.drop u) _ RD.out HXD.out).mono ?_
      rintro e w2 ⟨v2, rfl, hown2, hbel2⟩
      have O2 : Hid (w2.ownsRow wr.heap.size 5 1 v2 (unwrapF (xs.drop u)).1.length ((unwrapF (xs.drop u)).1.map (Value.int .u8))) := hown2
      have R2 : Hid (Lists w2 w.heap.size u4 out) := HR.out.below hbel2 (Nat.le_refl _)
      have B2 : Hid (Below w.heap.size w w2) := HB.out.trans (hbel2.mono hsr)
      have hs2 := B2.out.size
      clear hown2 hbel2
      by_cases hok : (unwrapF (xs.drop u)).2.2 = 0
      · have huse := unwrapF_use HXD.out hok
        rw [List.length_drop] at huse
        have HG : Hid (allR xs f u out = allR xs (f - 1) (u + (unwrapF (xs.drop u)).2.1) (out ++ [(unwrapF (xs.drop u)).1])) := by
          show _ = _
          obtain ⟨f', rfl⟩ : ∃ f', f = f' + 1 := ⟨f - 1, by omega⟩
          rw [allR_go hok]; rfl
        generalize hq : unwrapF (xs.drop u) = q at *
        obtain ⟨q1, q2, q3⟩ := q
        have hok' : q3 = 0 := hok
        subst hok'
        have h5 : 5 ≤ q2 ∧ q2 ≤ xs.length - u := huse
        have HG2 : Hid (allR xs f u out = allR xs (f - 1) (u + q2) (out ++ [q1])) := HG.out
        have O3 : Hid (w2.ownsRow w.heap.size 5 1 v2 q1.length (q1.map (Value.int .u8))) := own_lower O2.out hsr
        clear hq huse hok HG O2
        obtain ⟨va, vn, vc, rfl⟩ : ∃ va vn vc, v2 = .slice va vn vc := by rcases own_cases O3.out with ⟨h, _⟩ | ⟨g3, c3, h, _⟩ <;> exact ⟨_, _, _, h⟩
        go_wp2_with (at_builtin; refine wpList_append_rows rfl _ _ rfl w.heap.size _ out rfl (R2.out.alloc _) w2.heap.size (.slice va vn vc) q1 rfl (cell_new0 _ _ 22) (O3.out.alloc _) (by omega) (by simp; omega) ?_)
        intro v4 w4 hrows4 hbel4
        have R4 : Hid (Lists w4 w.heap.size v4 (out ++ [q1])) := hrows4
        have B4 : Hid (Below w.heap.size w w4) := (B2.out.alloc hs2 _).trans hbel4
        clear hrows4 hbel4
        go_wp2
        go_roundw
        case rel => exact ⟨u + q2, f - 1, out ++ [q1], by omega, by simp; omega, by omega, by go_num, R4.out, by rw [← HG2.out]; exact HA.out, B4.out⟩
        case measure => simp [intOf]; omega
      · have HS : Hid (allF xs = (out, u)) := by show _ = _; rw [← HA.out, allR_stop (by omega) hok]
        have hne : ((unwrapF (xs.drop u)).2.2 != 0) = true := by simp [hok]
        generalize unwrapF (xs.drop u) = q at *
        obtain ⟨q1, q2, q3⟩ := q
        have hne' : (q3 != 0) = true := hne
        clear hne hok O2
        go_wp2_with fail
        go_ret2
        exact ⟨_, by rw [HS.out]; rfl, by rw [HS.out]; exact R2.out, B2.out⟩

theorem allOf_empty (a : Option Addr) (cap : Nat) (w : World) :
    Calls Try.prog 18 #[.slice a 0 cap] w fun e w' => e = .returned (.tuple #[.slice none 0 0, .int .i64 0]) ∧ w' = w := by
  go_enter Try.func18, Try.ntmps18
  go_wp2_with fail
  refine wp_loop_rounds 1 ?_
  rw [rounds_succ]
  go_wp2_with fail
  go_ret2
  exact ⟨rfl, rfl⟩
theorem allOf_any (v : Value) (xs : List Int) (w : World) (h : Reads .u8 w v xs) (hx : ∀ x ∈ xs, 0 ≤ x ∧ x ≤ 255) (hl : xs.length ≤ 1000000000000) :
    Calls Try.prog 18 #[v] w fun e w' =>
      ∃ v', e = .returned (.tuple #[v', .int .i64 (allF xs).2]) ∧ Lists w' w.heap.size v' (allF xs).1 ∧ Below w.heap.size w w' := by
  by_cases hn : 0 < xs.length
  · obtain ⟨b, off, cap, rfl, hc, hm, _, hcell⟩ := h.plain hn
    exact allOf_row b off cap xs w hn hc hm hl hx hcell
  · have : xs = [] := List.eq_nil_of_length_eq_zero (by omega)
    subst this
    obtain ⟨a, cap, rfl, hm, ha⟩ := h.empty
    refine (allOf_empty a cap w).mono ?_
    rintro e w' ⟨rfl, rfl⟩
    have hall : allF [] = ([], 0) := by decide
    exact ⟨_, by rw [hall]; rfl, by rw [hall]; exact Lists.nil _ _, Below.refl _ _⟩

set_option maxHeartbeats 400000 in
set_option maxRecDepth 100000 in
theorem sameList_any (b1 b2 : Nat) (va vb : Value) (out : List (List Int)) (w : World) (h1 : Lists w b1 va out) (h2 : Lists w b2 vb out) (hby : ∀ p ∈ out, ∀ x ∈ p, 0 ≤ x ∧ x ≤ 255) :
    Calls Try.prog 19 #[va, vb] w fun e w' => e = .returned (.bool true) ∧ Below w.heap.size w w' := by
  obtain ⟨vs1, l1, o1, e1⟩ := h1
  obtain ⟨vs2, l2, o2, e2⟩ := h2
  by_cases hn : 0 < out.length
  · obtain ⟨g1, c1, rfl, _, hg1, hc1, hm1, hcell1⟩ := own_shape o1 hn
    obtain ⟨g2, c2, rfl, _, hg2, hc2, hm2, hcell2⟩ := own_shape o2 hn
    unfold maxLen at hm1 hm2
    have hadd : ∀ g t, (⟨g, 0, none⟩ : Addr).add t = ⟨g, t, none⟩ := fun g t => by unfold Addr.add; split <;> simp_all
    have C1 : Hid (∀ i, i < out.length → w.cell? ⟨g1, i, none⟩ = some (vs1.getD i undef)) := fun i hi => by
      have := hcell1 i (vs1.getD i undef) (by rw [List.getElem?_eq_getElem (by omega), List.getD_eq_getElem?_getD, List.getElem?_eq_getElem (show i < vs1.length by omega)]; rfl)
      rwa [hadd] at this
    have C2 : Hid (∀ i, i < out.length → w.cell? ⟨g2, i, none⟩ = some (vs2.getD i undef)) := fun i hi => by
      have := hcell2 i (vs2.getD i undef) (by rw [List.getElem?_eq_getElem (by omega), List.getD_eq_getElem?_getD, List.getElem?_eq_getElem (show i < vs2.length by omega)]; rfl)
      rwa [hadd] at this
    have E1 : Hid (∀ i, i < out.length → Reads .u8 w (vs1.getD i undef) (out.getD i [])) := fun i hi => reads_own (e1 i hi)
    have E2 : Hid (∀ i, i < out.length → Reads .u8 w (vs2.getD i undef) (out.getD i [])) := fun i hi => reads_own (e2 i hi)
    have BY : Hid (∀ i, i < out.length → ∀ x ∈ out.getD i [], 0 ≤ x ∧ x ≤ 255) := fun i hi => hby _ (by rw [List.getD_eq_getElem?_getD, List.getElem?_eq_getElem hi]; exact List.getElem_mem hi)
    clear hcell1 hcell2 e1 e2 o1 o2 hadd hby
    go_enter Try.func19, Try.ntmps19
    go_wp2_with fail
    go_loopw [5] (fun i wr => ∃ k : Nat, k ≤ out.length ∧ i = .int .i64 k ∧ Below w.heap.size w wr) (fun i _ => out.length - (intOf i).toNat)
    case atStart => exact ⟨0, by omega, rfl, Below.refl _ _⟩
    case round =>
      obtain ⟨k, hk, rfl, hbel⟩ := hrel
      by_cases hlt : k < out.length
      · have d1 : wr.cell? ⟨g1, k, none⟩ = some (vs1.getD k undef) := (hbel.cell (by exact hg1)).trans (C1.out k hlt)
        have d2 : wr.cell? ⟨g2, k, none⟩ = some (vs2.getD k undef) := (hbel.cell (by exact hg2)).trans (C2.out k hlt)
        have r1 : Hid (Reads .u8 wr (vs1.getD k undef) (out.getD k [])) := (E1.out k hlt).below hbel (Nat.le_refl _)
        have r2 : Hid (Reads .u8 wr (vs2.getD k undef) (out.getD k [])) := (E2.out k hlt).below hbel (Nat.le_refl _)
        have rb : Hid (∀ x ∈ out.getD k [], 0 ≤ x ∧ x ≤ 255) := BY.out k hlt
        have hlt' : (k : Int) < (out.length : Int) := by omega
        have h0' : (0 : Int) ≤ (k : Int) := by omega
        generalize vs1.getD k undef = x1 at *
        generalize vs2.getD k undef = x2 at *
        generalize out.getD k [] = p at *
        obtain ⟨y1, n1, z1, rfl⟩ : ∃ a n c, x1 = .slice a n c := by obtain ⟨a, c, h, _⟩ := r1.out; exact ⟨_, _, _, h⟩
        obtain ⟨y2, n2, z2, rfl⟩ : ∃ a n c, x2 = .slice a n c := by obtain ⟨a, c, h, _⟩ := r2.out; exact ⟨_, _, _, h⟩
        go_wp2_with fail
        go_quiet ((go_at_call 14; exact Calls.quiet_of_same (sameBytes_any _ _ p p _ r1.out r2.out rb.out rb.out)))
        go_wp2_with fail
        go_roundw
        case rel => exact ⟨k + 1, by omega, by go_num, below_drewN hbel _⟩
        case measure => simp [intOf]; omega
      · go_wp2_with fail
        go_ret
        exact ⟨rfl, hbel⟩
  · have : out = [] := List.eq_nil_of_length_eq_zero (by omega)
    subst this
    obtain ⟨a1, c1, rfl⟩ : ∃ a c, va = .slice a 0 c := by rcases own_cases o1 with ⟨h, _⟩ | ⟨g, c, h, _⟩ <;> exact ⟨_, _, h⟩
    obtain ⟨a2, c2, rfl⟩ : ∃ a c, vb = .slice a 0 c := by rcases own_cases o2 with ⟨h, _⟩ | ⟨g, c, h, _⟩ <;> exact ⟨_, _, h⟩
    clear o1 o2 e1 e2
    go_enter Try.func19, Try.ntmps19
    go_wp2_with fail
    refine wp_loop_rounds 1 ?_
    rw [rounds_succ]
    go_wp2_with fail
    go_ret
    exact ⟨rfl, Below.refl _ _⟩
end Go.Proofs.Ytjagefchoggbaaa
