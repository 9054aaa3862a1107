/-
  Contract of the document's own Mails: mail, one by one put where it belongs.
-/
import Derived.Test.YtihghhmhgakkaaaMailAhead
import Derived.Deep.RegionHeld3
import Derived.Deep.CutRange
import Derived.Deep.QuietTactic
import Derived.BigQuiet
namespace Go.Proofs.Ytihghhmhgakkaaa
set_option maxRecDepth 100000
open Go.ChangeShapes Go.WideShapes Go.ChangeAt Go.RowKit

set_option maxHeartbeats 2000000 in
set_option maxRecDepth 100000 in
theorem refMails_any (v : Value) (es : List Ml) (w : World) (h : MlR w v es) (hl : es.length ≤ 5000) :
    Calls Try.prog 34 #[v] w fun e w' => ∃ v', e = .returned v' ∧ w'.ownsRow w.heap.size 27 2 v' (sortM es).length ((sortM es).flatMap encM) ∧ Below w.heap.size w w' := by
  have HR : Hid (MlR w v es) := h
  obtain ⟨a, cap, rfl, hc, hm, _, _⟩ := h
  unfold maxLen at hm
  go_enter Try.func34, Try.ntmps34
  go_wp2_with fail
  go_loopw [3, 4] (fun u i wr => ∃ (k : Nat) (s : List Ml), k ≤ es.length ∧ i = .int .i64 k ∧ wr.ownsRow w.heap.size 27 2 u s.length (s.flatMap encM) ∧ s.Perm (es.take k) ∧ InM s ∧ Below w.heap.size w wr) (fun _ i _ => es.length - (intOf i).toNat)
  case atStart => exact ⟨0, [], by omega, rfl, World.ownsRow_nil _ _ _ _, List.Perm.refl _, List.Pairwise.nil, Below.refl _ _⟩
  case round =>
    obtain ⟨k, s, hk, rfl, hown, hp, hso, hbel⟩ := hrel
    have OW : Hid (wr.ownsRow w.heap.size 27 2 u3 s.length (s.flatMap encM)) := hown
    have HB : Hid (Below w.heap.size w wr) := hbel
    have HP : Hid (s.Perm (es.take k)) := hp
    have HSO : Hid (InM s) := hso
    have hsr := hbel.size
    have hsl : s.length = k := by have := hp.length_eq; simp at this; omega
    clear hown hbel hp hso
    by_cases hlt : k < es.length
    · obtain ⟨b, off, cap', e1, _, _, lt, hv⟩ := MlR.at (HR.out.below HB.out (Nat.le_refl _)) (by omega)
      injection e1 with e1 _ e3
      subst e1 e3
      obtain ⟨x, hx⟩ := getX hlt
      obtain ⟨c1, c2⟩ := hv k x hx
      have HX : Hid (es.take (k + 1) = es.take k ++ [x]) := take_snoc hx
      clear hv hx
      go_wp2_with (at_builtin; refine wpList_append_newK kM rfl _ _ rfl w.heap.size _ s rfl (OW.out.alloc _) wr.heap.size x rfl #[.int .i64 x.1, .int .i64 x.2] rfl (0, 0) (heap_alloc_new _ _) (by simp [kM]; omega) (by unfold maxLen; omega) (by simp; omega) ?_)
      intro g c w3 hown3 hb3 _
      have O3 : Hid (w3.ownsRow w.heap.size 27 2 (.slice (some ⟨g, 0, none⟩) (k + 1) c) (k + 1) ((s ++ [x]).flatMap encM)) := by
        show World.ownsRow _ _ _ _ _ _ _
        rw [flat_snoc]; exact hown3
      have HB3 : Hid (Below w.heap.size w w3) := (HB.out.alloc hsr _).trans hb3
      clear hown3 hb3 c1 c2
      have hgw : w.heap.size ≤ g := (O3.out.lt g rfl).1
      go_wp2_with fail
      go_loopw [5] (fun j wq => ∃ (A B : List Ml) (m : Nat), A ++ B = s ∧ j = .int .i64 m ∧ A.length = m ∧ (∀ y ∈ B, ltM x y) ∧ wq.ownsRow w.heap.size 27 2 (.slice (some ⟨g, 0, none⟩) (k + 1) c) (k + 1) ((A ++ x :: B).flatMap encM) ∧ Below w.heap.size w wq) (fun j _ => (intOf j).toNat)
      case atStart => exact ⟨s, [], k, by simp, rfl, hsl, by simp, O3.out, HB3.out⟩
      case round =>
        obtain ⟨A, B, m, hAB, rfl, hAm, hBx, hown, hbq⟩ := hrel
        have OQ : Hid (wr.ownsRow w.heap.size 27 2 (.slice (some ⟨g, 0, none⟩) (k + 1) c) (k + 1) ((A ++ x :: B).flatMap encM)) := hown
        have HBQ : Hid (Below w.heap.size w wr) := hbq
        have HAB : Hid (A ++ B = s) := hAB
        have HBX : Hid (∀ y ∈ B, ltM x y) := hBx
        have hcap : k + 1 ≤ c ∧ c ≤ maxLen := by
          rcases own_shapeK hown with ⟨e, _⟩ | ⟨_, _, e, _, _, q1, q2, _⟩
          · cases e
          · injection e with _ _ e3; rw [e3]; exact ⟨q1, q2⟩
        have hAl : A.length ≤ k := by have := congrArg List.length hAB; simp at this; omega
        have hsq := hbq.size
        clear hown hbq hAB hBx O3 HB3 OW HB
        unfold maxLen at hcap
        rcases List.eq_nil_or_concat A with rfl | ⟨A', z, rfl⟩
        · have HIN : Hid (InM (x :: B)) := putM_sorted (A := []) (by rw [HAB.out]; exact HSO.out) HBX.out (by simp)
          have HPE : Hid ((x :: B).Perm (es.take (k + 1))) := by
            show List.Perm _ _
            rw [HX.out]; exact putM_perm (A := []) HAB.out HP.out
          have HL : Hid ((x :: B).length = k + 1) := by
            show _ = _
            have := congrArg List.length HAB.out; simp at this; simp; omega
          obtain rfl : m = 0 := by simpa using hAm.symm
          have hgt : ¬ ((0 : Nat) : Int) > 0 := by simp
          clear hAm hAl
          go_wp2_with fail
          go_quiet (fail)
          go_wp2_with fail
          go_roundw
          case rel => exact ⟨k + 1, x :: B, by omega, by go_num, by rw [HL.out]; exact OQ.out, HPE.out, HIN.out, below_drewN HBQ.out _⟩
          case measure => simp [intOf]; omega
        · simp only [List.concat_eq_append] at *
          obtain ⟨m', rfl⟩ : ∃ m', m = m' + 1 := ⟨A'.length, by simpa using hAm.symm⟩
          have hA' : A'.length = m' := by simpa using hAm
          have OQ2 : Hid (wr.ownsRow w.heap.size 27 2 (.slice (some ⟨g, 0, none⟩) (k + 1) c) (k + 1) ((A' ++ z :: x :: B).flatMap encM)) := by
            show World.ownsRow _ _ _ _ _ _ _
            simpa using OQ.out
          obtain ⟨z1, z2⟩ := ownM_at OQ2.out (i := m') (x := z) (by rw [← hA']; exact getM_mid)
          obtain ⟨x1, x2⟩ := ownM_at OQ2.out (i := m' + 1) (x := x) (by
            rw [← hA']; simp)
          have hm1 : m' + 1 < k + 1 := by simp at hAl; omega
          have HA' : Hid (A'.length = m') := hA'
          clear OQ hA' hAm hAl
          have q0 : (0 : Int) ≤ (m' : Int) + 1 := by omega
          have q1 : (m' : Int) + 1 < (k : Int) + 1 := by omega
          have q2 : (0 : Int) ≤ (m' : Int) := by omega
          have q3 : (m' : Int) < (k : Int) + 1 := by omega
          have q4 : (m' : Int) + 1 > 0 := by omega
          have q5 : IntKind.i64.wrap (m' : Int) = m' := wrap_id64 (by omega) (by omega)
          have q6 : IntKind.i64.wrap ((m' : Int) + 1 - 1) = m' := by rw [Int.add_sub_cancel]; exact q5
          have hgl : g < wr.heap.size := World.block_lt_of_cell? wr _ z1
          have KEEP : Hid (∀ V, Below wr.heap.size wr V → V.cell? ⟨g, m' * 2, none⟩ = some (.int .i64 z.1) ∧ V.cell? ⟨g, m' * 2 + 1, none⟩ = some (.int .i64 z.2) ∧ V.cell? ⟨g, (m' + 1) * 2, none⟩ = some (.int .i64 x.1) ∧ V.cell? ⟨g, (m' + 1) * 2 + 1, none⟩ = some (.int .i64 x.2)) := fun V hV => ⟨(hV.cell (p := ⟨g, m' * 2, none⟩) hgl).trans z1, (hV.cell (p := ⟨g, m' * 2 + 1, none⟩) hgl).trans z2, (hV.cell (p := ⟨g, (m' + 1) * 2, none⟩) hgl).trans x1, (hV.cell (p := ⟨g, (m' + 1) * 2 + 1, none⟩) hgl).trans x2⟩
          clear z1 z2 x1 x2
          go_wp2_with fail
          go_region_held3 (fun V => V.cell? ⟨g, m' * 2, none⟩ = some (.int .i64 z.1) ∧ V.cell? ⟨g, m' * 2 + 1, none⟩ = some (.int .i64 z.2) ∧ V.cell? ⟨g, (m' + 1) * 2, none⟩ = some (.int .i64 x.1) ∧ V.cell? ⟨g, (m' + 1) * 2 + 1, none⟩ = some (.int .i64 x.2)) (first | exact KEEP.out _ ((Below.refl _ _).drew) | (refine KEEP.out _ (below_undrew ?_); assumption)) (first | (go_at_call 48; refine (aheadM_any x z _).mono ?_; rintro e w1 ⟨rfl, hb1⟩))
          rename_i hh
          have B1 : Hid (Below wr.heap.size wr w1) := below_undrew hb1
          clear hh hb1
          have O1 : Hid (w1.ownsRow w.heap.size 27 2 (.slice (some ⟨g, 0, none⟩) (k + 1) c) (k + 1) ((A' ++ z :: x :: B).flatMap encM)) := own_below OQ2.out B1.out (Nat.le_refl _)
          have hs1 := B1.out.size
          by_cases hlt2 : ltM x z
          · have hd : ltMb x z = true := ltMb_true.2 hlt2
            rw [hd]
            obtain ⟨e1, e2, e3, e4⟩ := KEEP.out w1 B1.out
            have hg1 : g < w1.heap.size := by omega
            clear KEEP hd
            go_upto_region 10 with fail
            have W2F : Hid (∃ bx, bx ≠ g ∧ bx = w1.heap.size ∧ ∀ (o : Obj), o = .cells #[.int .i64 x.1, .int .i64 x.2] 27 → (w1.alloc o).ownsRow w.heap.size 27 2 (.slice (some ⟨g, 0, none⟩) (k + 1) c) (k + 1) ((A' ++ z :: x :: B).flatMap encM) ∧ Below w.heap.size w (w1.alloc o) ∧
              (w1.alloc o).cell? ⟨bx, 0, none⟩ = some (.int .i64 x.1) ∧ (w1.alloc o).cell? ⟨bx, 1, none⟩ = some (.int .i64 x.2)) :=
              ⟨w1.heap.size, by omega, rfl, fun o ho => by
                subst ho
                refine ⟨O1.out.alloc _, (HBQ.out.trans (B1.out.mono hsq)).alloc (by omega) _, ?_, ?_⟩
                · rw [cell_of_row _ _ _ _ _ _ (heap_alloc_new w1 _)]; rfl
                · rw [cell_of_row _ _ _ _ _ _ (heap_alloc_new w1 _)]; rfl⟩
            obtain ⟨bx, hbx, ebx, hW2⟩ := W2F.out
            obtain ⟨ow2, bw2, t0, t1⟩ := hW2 _ rfl
            rw [← ebx]
            generalize w1.alloc (.cells #[.int .i64 x.1, .int .i64 x.2] 27) = w2 at *
            have hz : (A' ++ z :: x :: B)[m']? = some z := by rw [← HA'.out]; exact getM_mid
            have hxx : (A' ++ z :: x :: B)[m' + 1]? = some x := by rw [← HA'.out]; simp
            have hlen3 : m' + 1 < (A' ++ z :: x :: B).length := by have := HA'.out; simp; omega
            obtain ⟨z1, z2⟩ := ownM_at ow2 hz
            obtain ⟨x1, x2⟩ := ownM_at ow2 hxx
            have fz : ∀ j, w2.frozen? ⟨g, j, none⟩ = false := fun j => frozenK ow2 j
            have s1 : (w2.setCell ⟨g, (m' + 1) * 2, none⟩ (.int .i64 z.1)).cell? ⟨g, (m' + 1) * 2 + 1, none⟩ = some (.int .i64 x.2) := (cellM_far (by omega)).trans x2
            have OW2 : Hid (w2.ownsRow w.heap.size 27 2 (.slice (some ⟨g, 0, none⟩) (k + 1) c) (k + 1) ((A' ++ z :: x :: B).flatMap encM)) := ow2
            have BW2 : Hid (Below w.heap.size w w2) := bw2
            have T0 : Hid (w2.cell? ⟨bx, 0, none⟩ = some (.int .i64 x.1) ∧ w2.cell? ⟨bx, 1, none⟩ = some (.int .i64 x.2)) := ⟨t0, t1⟩
            clear hz hxx ow2 bw2 hW2 W2F t0 t1 ebx O1 e1 e2 e3 e4
            go_upto_region 11 with fail
            have hE : ((w2.setCell ⟨g, (m' + 1) * 2, none⟩ (.int .i64 z.1)).setCell ⟨g, (m' + 1) * 2 + 1, none⟩ (.int .i64 z.2)) = putM w2 g ((m' + 1) * 2) z := rfl
            rw [hE]
            have O3 : Hid ((putM w2 g ((m' + 1) * 2) z).ownsRow w.heap.size 27 2 (.slice (some ⟨g, 0, none⟩) (k + 1) c) (k + 1) ((A' ++ z :: z :: B).flatMap encM)) := by
              have := ownM_put OW2.out hlen3 z
              rw [show (A' ++ z :: x :: B).set (m' + 1) z = A' ++ z :: z :: B by rw [← HA'.out]; simp] at this
              exact this
            have B3 : Hid (Below w.heap.size w (putM w2 g ((m' + 1) * 2) z)) := below_putM BW2.out hgw z
            have t0 : (putM w2 g ((m' + 1) * 2) z).cell? ⟨bx, 0, none⟩ = some (.int .i64 x.1) := (putM_cell hbx).trans T0.out.1
            have t1 : (putM w2 g ((m' + 1) * 2) z).cell? ⟨bx, 1, none⟩ = some (.int .i64 x.2) := (putM_cell hbx).trans T0.out.2
            clear hE s1 fz z1 z2 x1 x2 OW2 BW2 T0
            generalize putM w2 g ((m' + 1) * 2) z = w3 at *
            have hz : (A' ++ z :: z :: B)[m']? = some z := by rw [← HA'.out]; exact getM_mid
            have hlen4 : m' < (A' ++ z :: z :: B).length := by have := HA'.out; simp; omega
            obtain ⟨z1, z2⟩ := ownM_at O3.out hz
            have fz : ∀ j, w3.frozen? ⟨g, j, none⟩ = false := fun j => frozenK O3.out j
            have s1 : (w3.setCell ⟨g, m' * 2, none⟩ (.int .i64 x.1)).cell? ⟨g, m' * 2 + 1, none⟩ = some (.int .i64 z.2) := (cellM_far (by omega)).trans z2
            have O4 : Hid ((putM w3 g (m' * 2) x).ownsRow w.heap.size 27 2 (.slice (some ⟨g, 0, none⟩) (k + 1) c) (k + 1) ((A' ++ x :: z :: B).flatMap encM)) := by
              have := ownM_put O3.out hlen4 x
              rw [show (A' ++ z :: z :: B).set m' x = A' ++ x :: z :: B by rw [← HA'.out]; exact setM_mid] at this
              exact this
            have B4 : Hid (Below w.heap.size w (putM w3 g (m' * 2) x)) := below_putM B3.out hgw x
            have HB2 : Hid (∀ y ∈ z :: B, ltM x y) := fun y hy => by
              rcases List.mem_cons.1 hy with rfl | hy
              · exact hlt2
              · exact HBX.out y hy
            have HAB2 : Hid (A' ++ z :: B = s) := by
              show _ = _
              rw [← HAB.out]; simp
            clear hz hlen3 hlen4
            go_wp2_with fail
            go_roundw
            case rel => exact ⟨A', z :: B, m', HAB2.out, by go_num, HA'.out, HB2.out, O4.out, B4.out⟩
            case measure => simp [intOf]
          · have hd : ltMb x z = false := ltMb_false.2 hlt2
            have HIN : Hid (InM (A' ++ [z] ++ x :: B)) := putM_sorted (by rw [HAB.out]; exact HSO.out) HBX.out (by
              intro y hy
              simp at hy
              subst hy
              exact hlt2)
            have HPE : Hid ((A' ++ [z] ++ x :: B).Perm (es.take (k + 1))) := by
              show List.Perm _ _
              rw [HX.out]; exact putM_perm HAB.out HP.out
            have HL : Hid ((A' ++ [z] ++ x :: B).length = k + 1) := by
              show _ = _
              have := congrArg List.length HAB.out; simp at this; simp; omega
            have HR2 : Hid (A' ++ [z] ++ x :: B = A' ++ z :: x :: B) := by show _ = _; simp
            rw [hd]
            clear KEEP hd
            go_wp2_with fail
            go_roundw
            case rel => exact ⟨k + 1, A' ++ [z] ++ x :: B, by omega, by go_num, by rw [HL.out, HR2.out]; exact O1.out, HPE.out, HIN.out, HBQ.out.trans (B1.out.mono hsq)⟩
            case measure => simp [intOf]; omega
    · have ek : es.take k = es := List.take_of_length_le (by omega)
      have HE : Hid (s = sortM es) := sortedM_uniq (by have := HP.out; rwa [ek] at this) HSO.out
      have O2 : Hid (wr.ownsRow w.heap.size 27 2 u3 (sortM es).length ((sortM es).flatMap encM)) := by
        show World.ownsRow _ _ _ _ _ _ _
        rw [← HE.out]; exact OW.out
      clear ek hsl
      go_wp2_with fail
      go_ret
      exact ⟨_, rfl, O2.out, HB.out⟩
end Go.Proofs.Ytihghhmhgakkaaa
