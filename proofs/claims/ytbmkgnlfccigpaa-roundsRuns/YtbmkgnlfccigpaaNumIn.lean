/-
  A number put where it belongs among others that rise; contract of the document's own numberIn.
-/
import Derived.Test.YtbmkgnlfccigpaaRoundMath
import Derived.Test.YtbmkgnlfccigpaaIntRow
import Derived.Deep.CutRange
namespace Go.Proofs.Ytbmkgnlfccigpaa
set_option maxRecDepth 100000
open Go.ChangeShapes Go.WideShapes Go.ChangeAt Go.RowKit

def insNS (n : Int) (s : List Int × Bool) (x : Int) : List Int × Bool := if s.2 = false ∧ n < x then (s.1 ++ [n] ++ [x], true) else (s.1 ++ [x], s.2)
def insNP (l : List Int) (n : Int) : List Int × Bool := l.foldl (insNS n) ([], false)
def insN (l : List Int) (n : Int) : List Int := if (insNP l n).2 = true then (insNP l n).1 else (insNP l n).1 ++ [n]
theorem insNP_snoc (l : List Int) (n x : Int) : insNP (l ++ [x]) n = insNS n (insNP l n) x := by unfold insNP; rw [List.foldl_append]; rfl
theorem insNP_ok {n : Int} : ∀ {l : List Int}, (l.Pairwise fun a b => a ≤ b) → ((insNP l n).2 = false → (insNP l n).1 = l ∧ ∀ y ∈ l, y ≤ n) ∧ ((insNP l n).2 = true → (insNP l n).1.Perm (n :: l) ∧ ((insNP l n).1.Pairwise fun a b => a ≤ b) ∧ ∃ y ∈ l, n < y) := by
  have key : ∀ (k : Nat) (l : List Int), l.length = k → (l.Pairwise fun a b => a ≤ b) → ((insNP l n).2 = false → (insNP l n).1 = l ∧ ∀ y ∈ l, y ≤ n) ∧ ((insNP l n).2 = true → (insNP l n).1.Perm (n :: l) ∧ ((insNP l n).1.Pairwise fun a b => a ≤ b) ∧ ∃ y ∈ l, n < y) := by
    intro k
    induction k with
    | zero =>
      intro l hk _
      have : l = [] := List.eq_nil_of_length_eq_zero hk
      subst this
      exact ⟨fun _ => ⟨rfl, by simp⟩, fun h => (by cases h)⟩
    | succ k ih =>
      intro l hk hl
      rcases List.eq_nil_or_concat l with rfl | ⟨m, x, rfl⟩
      · simp at hk
      · rw [List.concat_eq_append] at hk hl ⊢
        obtain ⟨p1, _, p3⟩ := List.pairwise_append.1 hl
        have p3' : ∀ y ∈ m, y ≤ x := fun y hy => p3 y hy x (by simp)
        obtain ⟨h1, h2⟩ := ih m (by simp at hk; omega) p1
        rw [insNP_snoc]
        unfold insNS
        cases hb : (insNP m n).2 with
        | false =>
          obtain ⟨e1, e2⟩ := h1 hb
          by_cases hx : n < x
          · rw [if_pos ⟨rfl, hx⟩]
            refine ⟨fun h => (by cases h), fun _ => ?_⟩
            simp only [e1]
            refine ⟨?_, ?_, x, by simp, hx⟩
            · rw [List.append_assoc]
              exact List.perm_middle
            · rw [List.pairwise_append, List.pairwise_append]
              refine ⟨⟨p1, List.pairwise_singleton _ _, fun y hy z hz => ?_⟩, List.pairwise_singleton _ _, fun y hy z hz => ?_⟩
              · simp at hz; rw [hz]; exact e2 y hy
              · simp at hz
                rw [hz]
                rcases List.mem_append.1 hy with hy | hy
                · exact p3' y hy
                · simp at hy; omega
          · rw [if_neg (fun g => hx g.2)]
            refine ⟨fun _ => ⟨by simp only [e1], fun y hy => ?_⟩, fun h => (by cases h)⟩
            rcases List.mem_append.1 hy with hy | hy
            · exact e2 y hy
            · simp at hy; omega
        | true =>
          rw [if_neg (fun g => by cases g.1)]
          obtain ⟨e1, e2, y0, hy0, hn0⟩ := h2 hb
          refine ⟨fun h => (by cases h), fun _ => ⟨?_, ?_, y0, by simp [hy0], hn0⟩⟩
          · simp only
            exact e1.append_right [x]
          · simp only
            rw [List.pairwise_append]
            refine ⟨e2, List.pairwise_singleton _ _, fun y hy z hz => ?_⟩
            simp at hz
            rw [hz]
            have h3 := p3' y0 hy0
            rcases List.mem_cons.1 (e1.mem_iff.1 hy) with rfl | hy
            · omega
            · exact p3' y hy
  exact fun {l} hl => key l.length l rfl hl
theorem insN_ok {l : List Int} {n : Int} (hl : l.Pairwise fun a b => a ≤ b) : (insN l n).Perm (n :: l) ∧ (insN l n).Pairwise fun a b => a ≤ b := by
  obtain ⟨h1, h2⟩ := insNP_ok (n := n) hl
  unfold insN
  cases hb : (insNP l n).2 with
  | false =>
    obtain ⟨e1, e2⟩ := h1 hb
    rw [if_neg (by simp), e1]
    refine ⟨List.perm_append_comm, ?_⟩
    rw [List.pairwise_append]
    exact ⟨hl, List.pairwise_singleton _ _, fun y hy z hz => by simp at hz; rw [hz]; exact e2 y hy⟩
  | true =>
    rw [if_pos rfl]
    exact ⟨(h2 hb).1, (h2 hb).2.1⟩
/-- What is told in turn stands in order. -/
theorem insN_sort (m : List Int) (x : Int) : insN (sortN m) x = sortN (m ++ [x]) := by
  obtain ⟨h1, h2⟩ := insN_ok (n := x) (sortN_ris m)
  refine sortN_uniq (h1.trans ?_) h2
  exact ((sortN_perm m).cons x).trans (List.perm_append_singleton x m).symm
theorem insN_len (l : List Int) (n : Int) (hl : l.Pairwise fun a b => a ≤ b) : (insN l n).length = l.length + 1 := by rw [(insN_ok hl).1.length_eq]; rfl
theorem insNS_len (n x : Int) (s : List Int × Bool) : (insNS n s x).1.length ≤ s.1.length + 2 := by
  unfold insNS
  split <;> simp
theorem insNP_len (n : Int) (l : List Int) : (insNP l n).1.length ≤ 2 * l.length := by
  have key : ∀ (l : List Int) (s : List Int × Bool), (l.foldl (insNS n) s).1.length ≤ s.1.length + 2 * l.length := by
    intro l
    induction l with
    | nil => intro s; exact Nat.le_refl _
    | cons x l ih =>
      intro s
      have h1 := ih (insNS n s x)
      have h2 := insNS_len n x s
      rw [List.foldl_cons, List.length_cons]
      omega
  have := key l ([], false)
  simp only [List.length_nil, Nat.zero_add] at this
  exact this

set_option maxHeartbeats 2000000 in
set_option maxRecDepth 100000 in
theorem numberIn_any (v : Value) (l : List Int) (n : Int) (w : World) (h : InR w v l) (hl : l.length ≤ 5000) :
    Calls Try.prog 33 #[v, .int .i64 n] w fun e w' => ∃ v', e = .returned v' ∧ w'.ownsRow w.heap.size 3 1 v' (insN l n).length ((insN l n).flatMap encI) ∧ Below w.heap.size w w' := by
  have HR : Hid (InR w v l) := h
  obtain ⟨a, cap, rfl, hc, hm, _, _⟩ := h
  unfold maxLen at hm
  obtain ⟨r, hr⟩ : ∃ r, insN l n = r := ⟨_, rfl⟩
  rw [hr]
  have HIF : Hid (r = if (insNP l n).2 = true then (insNP l n).1 else (insNP l n).1 ++ [n]) := hr.symm
  clear hr
  go_enter Try.func33, Try.ntmps33
  go_wp2_with fail
  go_loopw [5, 6, 7] (fun u d i wr => ∃ k : Nat, k ≤ l.length ∧ i = .int .i64 k ∧ d = .bool (insNP (l.take k) n).2 ∧ wr.ownsRow w.heap.size 3 1 u (insNP (l.take k) n).1.length ((insNP (l.take k) n).1.flatMap encI) ∧ Below w.heap.size w wr) (fun _ _ i _ => l.length - (intOf i).toNat)
  case atStart => exact ⟨0, by omega, rfl, rfl, World.ownsRow_nil _ _ _ _, Below.refl _ _⟩
  case round =>
    obtain ⟨k, hk, rfl, rfl, hown, hbel⟩ := hrel
    have OW : Hid (wr.ownsRow w.heap.size 3 1 u5 (insNP (l.take k) n).1.length ((insNP (l.take k) n).1.flatMap encI)) := hown
    have BW : Hid (Below w.heap.size w wr) := hbel
    have hsr := hbel.size
    have hil := insNP_len n (l.take k)
    have hlk : (insNP (l.take k) n).1.length ≤ 10000 := by rw [List.length_take] at hil; omega
    obtain ⟨ua, un, uc, rfl⟩ : ∃ a n c, u5 = .slice a n c := by
      rcases own_shapeK hown with ⟨e, _⟩ | ⟨g', c', e, _⟩
      · exact ⟨_, _, _, e⟩
      · exact ⟨_, _, _, e⟩
    clear hown hbel hil
    by_cases hlt : k < l.length
    · obtain ⟨b, off, cap', e1, _, _, lb, hv⟩ := InR.at HR.out (by omega)
      injection e1 with e1 e2 e3
      clear e2
      subst e1 e3
      obtain ⟨x, hx⟩ := getX hlt
      have c1 := hv k x hx
      have HCX : Hid (∀ X, Below w.heap.size w X → X.cell? ⟨b, off + k, none⟩ = some (.int .i64 x)) := fun X hX => (hX.cell (p := ⟨b, off + k, none⟩) lb).trans c1
      have c0 := HCX.out _ BW.out
      have HNX : Hid (insNP (l.take (k + 1)) n = insNS n (insNP (l.take k) n) x) := by
        show _ = _
        rw [take_snoc hx, insNP_snoc]
      have p0 : (0 : Int) ≤ (k : Int) := by omega
      have p1 : (k : Int) < (l.length : Int) := by omega
      clear hv hx c1
      have HIS : Hid (∀ s : List Int × Bool, (s.2 = false ∧ n < x → insNS n s x = (s.1 ++ [n] ++ [x], true)) ∧ (¬ (s.2 = false ∧ n < x) → insNS n s x = (s.1 ++ [x], s.2))) := fun s => ⟨fun h => if_pos h, fun h => if_neg h⟩
      generalize insNP (l.take k) n = st at *
      obtain ⟨f, d⟩ := st
      simp only at OW hlk ⊢
      by_cases hc : d = false ∧ n < x
      · have HN1 : Hid (insNS n (f, d) x = (f ++ [n] ++ [x], true)) := (HIS.out (f, d)).1 hc
        obtain ⟨rfl, hnx⟩ := hc
        go_wp2_with (at_builtin; refine wpList_append_newK kI rfl _ _ rfl w.heap.size _ f rfl (OW.out.alloc _) _ n rfl #[.int .i64 n] rfl (0, 0) (heap_alloc_new _ _) (by simp [kI]; omega) (by unfold maxLen; omega) (by simp; omega) ?_)
        intro g1 k1 w2 ho2 hb2 _
        have O2 : Hid (w2.ownsRow w.heap.size 3 1 (.slice (some ⟨g1, 0, none⟩) (f.length + 1) k1) (f ++ [n]).length ((f ++ [n]).flatMap encI)) := by
          show World.ownsRow _ _ _ _ _ _ _
          rw [flat_snoc, List.length_append]; exact ho2
        have B2 : Hid (Below w.heap.size w w2) := (BW.out.alloc hsr _).trans hb2
        have hs2 := B2.out.size
        have cb := fun o => HCX.out _ (B2.out.alloc hs2 o)
        have cc := HCX.out _ B2.out
        have hfl : (f ++ [n]).length ≤ 10001 := by simp; omega
        clear ho2 hb2 c0 OW BW
        go_wp2_with (at_builtin; refine wpList_append_newK kI rfl _ _ rfl w.heap.size _ (f ++ [n]) rfl (O2.out.alloc _) _ x rfl #[.int .i64 x] rfl (0, 0) (heap_alloc_new _ _) (by simp only [kI]; omega) (by unfold maxLen; omega) (by simp; omega) ?_)
        intro g2 k2 w3 ho3 hb3 _
        have O3 : Hid (w3.ownsRow w.heap.size 3 1 (.slice (some ⟨g2, 0, none⟩) (f.length + 1 + 1) k2) (insNS n (f, false) x).1.length ((insNS n (f, false) x).1.flatMap encI)) := by
          show World.ownsRow _ _ _ _ _ _ _
          rw [HN1.out]
          unfold kI at ho3
          simpa using ho3
        have B3 : Hid (Below w.heap.size w w3) := (B2.out.alloc hs2 _).trans hb3
        have D3 : Hid ((insNS n (f, false) x).2 = true) := by show _ = _; rw [HN1.out]
        clear ho3 hb3 cb cc hfl
        go_wp2_with fail
        go_roundw
        case rel => exact ⟨k + 1, by omega, by go_num, by rw [HNX.out, D3.out], by rw [HNX.out]; exact O3.out, B3.out⟩
        case measure => simp [intOf]; omega
      · have HN1 : Hid (insNS n (f, d) x = (f ++ [x], d)) := (HIS.out (f, d)).2 hc
        have D3 : Hid ((insNS n (f, d) x).2 = d) := by show _ = _; rw [HN1.out]
        have fin : ∀ (g2 k2 : Nat) (w3 : World), w3.ownsRow w.heap.size kI.e kI.k (.slice (some ⟨g2, 0, none⟩) (f.length + 1) k2) (f.length + 1) (f.flatMap kI.enc ++ kI.enc x) → w3.ownsRow w.heap.size 3 1 (.slice (some ⟨g2, 0, none⟩) (f.length + 1) k2) (insNS n (f, d) x).1.length ((insNS n (f, d) x).1.flatMap encI) := fun g2 k2 w3 ho => by
          rw [HN1.out]
          simp only
          rw [flat_snoc, List.length_append]
          exact ho
        have FIN : Hid (∀ (g2 k2 : Nat) (w3 : World), w3.ownsRow w.heap.size kI.e kI.k (.slice (some ⟨g2, 0, none⟩) (f.length + 1) k2) (f.length + 1) (f.flatMap kI.enc ++ kI.enc x) → w3.ownsRow w.heap.size 3 1 (.slice (some ⟨g2, 0, none⟩) (f.length + 1) k2) (insNS n (f, d) x).1.length ((insNS n (f, d) x).1.flatMap encI)) := fin
        clear fin
        cases d with
        | true =>
          go_wp2_with (at_builtin; refine wpList_append_newK kI rfl _ _ rfl w.heap.size _ f rfl (OW.out.alloc _) _ x rfl #[.int .i64 x] rfl (0, 0) (heap_alloc_new _ _) (by simp [kI]; omega) (by unfold maxLen; omega) (by simp; omega) ?_)
          intro g2 k2 w3 ho3 hb3 _
          have O3 : Hid (w3.ownsRow w.heap.size 3 1 (.slice (some ⟨g2, 0, none⟩) (f.length + 1) k2) (insNS n (f, true) x).1.length ((insNS n (f, true) x).1.flatMap encI)) := FIN.out _ _ _ ho3
          have B3 : Hid (Below w.heap.size w w3) := (BW.out.alloc hsr _).trans hb3
          clear ho3 hb3 c0
          go_wp2_with fail
          go_roundw
          case rel => exact ⟨k + 1, by omega, by go_num, by rw [HNX.out, D3.out], by rw [HNX.out]; exact O3.out, B3.out⟩
          case measure => simp [intOf]; omega
        | false =>
          have hnx : ¬ n < x := fun g => hc ⟨rfl, g⟩
          clear hc
          go_wp2_with (at_builtin; refine wpList_append_newK kI rfl _ _ rfl w.heap.size _ f rfl (OW.out.alloc _) _ x rfl #[.int .i64 x] rfl (0, 0) (heap_alloc_new _ _) (by simp [kI]; omega) (by unfold maxLen; omega) (by simp; omega) ?_)
          intro g2 k2 w3 ho3 hb3 _
          have O3 : Hid (w3.ownsRow w.heap.size 3 1 (.slice (some ⟨g2, 0, none⟩) (f.length + 1) k2) (insNS n (f, false) x).1.length ((insNS n (f, false) x).1.flatMap encI)) := FIN.out _ _ _ ho3
          have B3 : Hid (Below w.heap.size w w3) := (BW.out.alloc hsr _).trans hb3
          clear ho3 hb3 c0
          go_wp2_with fail
          go_roundw
          case rel => exact ⟨k + 1, by omega, by go_num, by rw [HNX.out, D3.out], by rw [HNX.out]; exact O3.out, B3.out⟩
          case measure => simp [intOf]; omega
    · have ek : l.take k = l := List.take_of_length_le (by omega)
      rw [ek] at OW hlk ⊢
      clear ek
      generalize insNP l n = st at *
      obtain ⟨f, d⟩ := st
      simp only at OW hlk HIF ⊢
      cases d with
      | true =>
        have OE : Hid (wr.ownsRow w.heap.size 3 1 (.slice ua un uc) r.length (r.flatMap encI)) := by
          show World.ownsRow _ _ _ _ _ _ _
          rw [HIF.out, if_pos rfl]; exact OW.out
        go_wp2_with fail
        go_ret
        exact ⟨_, rfl, OE.out, BW.out⟩
      | false =>
        have HIE : Hid (r = f ++ [n]) := by show _ = _; rw [HIF.out, if_neg (by simp)]
        go_wp2_with (at_builtin; refine wpList_append_newK kI rfl _ _ rfl w.heap.size _ f rfl (OW.out.alloc _) _ n rfl #[.int .i64 n] rfl (0, 0) (heap_alloc_new _ _) (by simp [kI]; omega) (by unfold maxLen; omega) (by simp; omega) ?_)
        intro g2 k2 w3 ho3 hb3 _
        have OE : Hid (w3.ownsRow w.heap.size 3 1 (.slice (some ⟨g2, 0, none⟩) (f.length + 1) k2) r.length (r.flatMap encI)) := by
          show World.ownsRow _ _ _ _ _ _ _
          rw [HIE.out, flat_snoc, List.length_append]; exact ho3
        have B3 : Hid (Below w.heap.size w w3) := (BW.out.alloc hsr _).trans hb3
        clear ho3 hb3
        go_wp2_with fail
        go_ret
        exact ⟨_, rfl, OE.out, B3.out⟩
end Go.Proofs.Ytbmkgnlfccigpaa
