/-
  Contracts of the document's own queued, QueueCount and Drained.
  Contracts of the document's own QueueCount and Drained.
  Contracts of the law's own mails, sameMails: copies, and what reads alike.
  Contract of octets: a copy of the bytes in memory of its own; nothing else is written.
  A region that draws its order, whose last operation waits for all others: the others in whatever order, then that one. (So the last one may store into what the others have read.)
  Calls in a region that draws its order: one whose result is told by a relation, one that gives up by a panic.
  Contract of the law's own queues: a copy of a queue.
-/
import Derived.Test.YtihghhmhgakkaaaQueueCountsPartA
import Derived.Test.YtihghhmhgakkaaaMailLists
import Derived.Deep.QuietTactic
import Derived.BigQuiet
import Derived.Lib.QuietBelow
import Derived.Test.YtihghhmhgakkaaaSame
import Derived.Laws.AppendOwnNone
import Derived.Test.YtihghhmhgakkaaaRowBase
import Derived.Deep.RegionHeld3
import Derived.Shelf.Abstract

namespace Go.Proofs.Ytihghhmhgakkaaa
set_option maxRecDepth 100000
open Go.ChangeShapes Go.WideShapes Go.ChangeAt Go.RowKit

/-- All mail. -/
def allQ (lo : List Ml) : Option (List (List Ml)) → List Ml
  | none => []
  | some f => lo ++ f.flatten
/-- What queued answers. -/
def QdP (w : World) (lo : List Ml) (o : Option (List (List Ml))) (e : Ending) (w' : World) : Prop := ∃ v', e = .returned (.tuple #[v', .bool o.isSome]) ∧ w'.ownsRow w.heap.size 27 2 v' (allQ lo o).length ((allQ lo o).flatMap encM) ∧ Below w.heap.size w w'
theorem QdP.no {w w' : World} {lo : List Ml} (h : Below w.heap.size w w') : QdP w lo none (.returned (.tuple #[.slice none 0 0, .bool false])) w' := ⟨_, rfl, World.ownsRow_nil _ _ _ _, h⟩
theorem quF_budget {n : Int} {lo : List Ml} {rs : List (List Int)} (h : ¬ (1 ≤ n ∧ n ≤ 1000)) : quF n lo rs = none := quF_no (by rw [Bool.eq_false_iff]; intro e; exact h ⟨(okQ_iff.1 e).1.1, (okQ_iff.1 e).1.2.1⟩)
theorem quF_loose {n : Int} {lo : List Ml} {rs : List (List Int)} (h : ¬ (lo.length : Int) < n) : quF n lo rs = none := quF_no (by rw [Bool.eq_false_iff]; intro e; exact h (okQ_iff.1 e).1.2.2.1)
theorem quF_runs {n : Int} {lo : List Ml} {rs : List (List Int)} (h : ¬ rs.length ≤ 5000) : quF n lo rs = none := quF_no (by rw [Bool.eq_false_iff]; intro e; exact h (okQ_iff.1 e).1.2.2.2)
theorem quF_barred {n : Int} {lo : List Ml} {rs : List (List Int)} (h : mayA lo = false) : quF n lo rs = none := quF_no (by rw [Bool.eq_false_iff]; intro e; rw [(okQ_iff.1 e).2] at h; cases h)

set_option maxHeartbeats 4000000 in
set_option maxRecDepth 100000 in
theorem queued_any (n : Int) (vl vr : Value) (lo : List Ml) (rs : List (List Int)) (w : World) (h : QuR w vl vr lo rs) (hB : QuB lo rs) :
    Calls Try.prog 30 #[.agg #[.int .i64 n, vl, vr]] w (QdP w lo (quF n lo rs)) := by
  have HR : Hid (QuR w vl vr lo rs) := h
  have HBY : Hid (∀ b ∈ rs, (∀ x ∈ b, 0 ≤ x ∧ x ≤ 255) ∧ b.length ≤ 140737488351232) := hB.2.1
  obtain ⟨a, cap, rfl, hc1, hm1, _⟩ := id h.1
  obtain ⟨c, cap2, rfl, hc2, hm2, _⟩ := id h.2
  unfold maxLen at hm1 hm2
  clear h hB
  have HI : Hid (∀ X, Calls Try.prog 44 #[.int .i64 n, .int .i64 1, .int .i64 1000] X fun e w' => e = .returned (.bool (inB n 1 1000)) ∧ w' = X) := fun X => in_any n 1 1000 X
  have HNo : Hid (quF n lo rs = none → ∀ w', Below w.heap.size w w' → QdP w lo (quF n lo rs) (.returned (.tuple #[.slice none 0 0, .bool false])) w') := fun e w' hw => by rw [e]; exact QdP.no hw
  have HYes : Hid (∀ f, quF n lo rs = some f → ∀ v w', w'.ownsRow w.heap.size 27 2 v (lo ++ f.flatten).length ((lo ++ f.flatten).flatMap encM) → Below w.heap.size w w' → QdP w lo (quF n lo rs) (.returned (.tuple #[v, .bool true])) w') := fun f e v w' ho hw => by rw [e]; exact ⟨_, rfl, ho, hw⟩
  have hb : ∀ o, Below w.heap.size w (w.alloc o) := fun o => below_alloc w o
  by_cases h0 : 1 ≤ n ∧ n ≤ 1000
  · by_cases h2 : (lo.length : Int) < n
    · by_cases h3 : rs.length ≤ 5000
      · have hin := in_yes h0
        rw [hin] at HI
        have e2 : ¬ n ≤ (lo.length : Int) := by omega
        have e3 : ¬ (5000 : Int) < (rs.length : Int) := by omega
        have h4 : lo.length < 1000 := by omega
        have HQ : Hid (mayA lo = true → quF n lo rs = unpF (5000 - lo.length) rs) := fun hm => quF_yes (okQ_iff.2 ⟨⟨h0.1, h0.2, h2, h3⟩, hm⟩)
        have HBar : Hid (mayA lo = false → quF n lo rs = none) := fun hm => quF_barred hm
        generalize QdP w lo (quF n lo rs) = P at *
        generalize quF n lo rs = o at *
        clear hin
        go_enter Try.func30, Try.ntmps30
        go_wp2_with fail
        refine (HI.out _).mono ?_
        rintro e w1 ⟨rfl, rfl⟩
        have Q0 := QX.new w (.int .i64 n) (.slice a lo.length cap) (.slice c rs.length cap2)
        have B0 : Hid (Below w.heap.size w (w.alloc (.cells #[.int .i64 n, .slice a lo.length cap, .slice c rs.length cap2] 25))) := hb _
        have hs0 : w.heap.size < (w.alloc (.cells #[.int .i64 n, .slice a lo.length cap, .slice c rs.length cap2] 25)).heap.size := by simp
        have R0 : Hid (QuR (w.alloc (.cells #[.int .i64 n, .slice a lo.length cap, .slice c rs.length cap2] 25)) (.slice a lo.length cap) (.slice c rs.length cap2) lo rs) := HR.out.below (hb _) (Nat.le_refl _)
        generalize w.alloc (.cells #[.int .i64 n, .slice a lo.length cap, .slice c rs.length cap2] 25) = W0 at *
        obtain ⟨q0, q1, q2⟩ := Q0.cells
        have QQ : Hid (QX W0 w.heap.size (.int .i64 n) (.slice a lo.length cap) (.slice c rs.length cap2)) := Q0
        clear Q0 HR HI hb h0
        go_wp2_with fail
        go_loopw [4, 5] (fun x i wr => ∃ k : Nat, k ≤ lo.length ∧ i = .int .i64 k ∧ mayA (lo.take k) = true ∧ wr.ownsRow W0.heap.size 27 2 x (lo.take k).length ((lo.take k).flatMap encM) ∧ Below W0.heap.size W0 wr) (fun _ i _ => lo.length - (intOf i).toNat)
        case atStart => exact ⟨0, by omega, rfl, rfl, World.ownsRow_nil _ _ _ _, Below.refl _ _⟩
        case round =>
          obtain ⟨k, hk, rfl, hmy, hown, hbel⟩ := hrel
          have MY : Hid (mayA (lo.take k) = true) := hmy
          have OW : Hid (wr.ownsRow W0.heap.size 27 2 u4 (lo.take k).length ((lo.take k).flatMap encM)) := hown
          have HB : Hid (Below W0.heap.size W0 wr) := hbel
          have hsr := hbel.size
          obtain ⟨r0, r1, r2⟩ := (QQ.out.below hbel hs0).cells
          have QR : Hid (QX wr w.heap.size (.int .i64 n) (.slice a lo.length cap) (.slice c rs.length cap2)) := QQ.out.below hbel hs0
          obtain ⟨ua, uc, rfl⟩ := (MlR.ownd hown).shape
          clear hmy hown hbel q0 q1 q2
          by_cases hlt : k < lo.length
          · obtain ⟨b, off, cap', e1, _, _, lt, hv⟩ := MlR.at (R0.out.1.below HB.out (Nat.le_refl _)) (by omega)
            injection e1 with e1 e9 e8
            subst e1 e8
            clear e9
            obtain ⟨x, hx⟩ := getX hlt
            obtain ⟨c1, c2⟩ := hv k x hx
            have HX : Hid (lo[k]? = some x) := hx
            have p0 : (0 : Int) ≤ (k : Int) := by omega
            have p1 : (k : Int) < (lo.length : Int) := by omega
            clear hv hx
            have HM : Hid (∀ X, Calls Try.prog 31 #[.agg #[.int .i64 x.1, .int .i64 x.2]] X fun e w' => e = .returned (.bool (mayM x)) ∧ Below X.heap.size X w') := fun X => mailMay_any x X
            cases hmx : mayM x
            · have HE : Hid (∀ w', Below w.heap.size w w' → P (.returned (.tuple #[.slice none 0 0, .bool false])) w') := HNo.out (HBar.out (mayA_hit HX.out hmx))
              rw [hmx] at HM
              clear hmx
              go_wp2_with fail
              refine (HM.out _).mono ?_
              rintro e w2 ⟨rfl, hb2⟩
              have HX : Hid (P (.returned (.tuple #[.slice none 0 0, .bool false])) w2) := HE.out _ ((B0.out.trans (HB.out.mono (by omega))).trans (hb2.mono (by omega)))
              clear hb2
              go_wp2_with fail
              exact HX.out
            · have MY2 : Hid (mayA (lo.take (k + 1)) = true) := mayA_cut HX.out MY.out hmx
              have HT : Hid (lo.take (k + 1) = lo.take k ++ [x]) := take_snoc HX.out
              have hlk : (lo.take k).length ≤ 1000 := by simp; omega
              rw [hmx] at HM
              clear hmx
              go_wp2_with fail
              refine (HM.out _).mono ?_
              rintro e w2 ⟨rfl, hb2⟩
              have O2 : Hid (w2.ownsRow W0.heap.size 27 2 (.slice ua (lo.take k).length uc) (lo.take k).length ((lo.take k).flatMap encM)) := own_below OW.out hb2 (Nat.le_refl _)
              have B2 : Hid (Below W0.heap.size W0 w2) := HB.out.trans (hb2.mono hsr)
              have hs2 := B2.out.size
              have d1 := (hb2.cell (p := ⟨b, off + k * 2, none⟩) lt).trans c1
              have d2 := (hb2.cell (p := ⟨b, off + k * 2 + 1, none⟩) lt).trans c2
              obtain ⟨s0, s1, s2⟩ := (QR.out.below hb2 (by omega)).cells
              clear hb2 OW HB r0 r1 r2 c1 c2 QR
              generalize lo.take k = t at *
              go_wp2_with (at_builtin; refine wpList_append_newK kM rfl _ _ rfl W0.heap.size _ t rfl (O2.out.alloc _) w2.heap.size x rfl #[.int .i64 x.1, .int .i64 x.2] rfl (0, 0) (heap_alloc_new _ _) (by simp [kM]; omega) (by unfold maxLen; omega) (by simp; omega) ?_)
              intro g gc w3 hown3 hb3 _
              have O3 : Hid (w3.ownsRow W0.heap.size 27 2 (.slice (some ⟨g, 0, none⟩) (t.length + 1) gc) (lo.take (k + 1)).length ((lo.take (k + 1)).flatMap encM)) := by show World.ownsRow _ _ _ _ _ _ _; rw [HT.out]; simpa [kM] using hown3
              have B3 : Hid (Below W0.heap.size W0 w3) := (B2.out.alloc hs2 _).trans hb3
              clear hown3 hb3
              go_wp2_with fail
              go_roundw
              case rel => exact ⟨k + 1, by omega, by go_num, MY2.out, O3.out, B3.out⟩
              case measure => simp [intOf]; omega
          · have ek : lo.take k = lo := List.take_of_length_le (by omega)
            rw [ek] at MY OW ⊢
            have OQ : Hid (o = unpF (5000 - lo.length) rs) := HQ.out MY.out
            clear HQ HBar MY ek
            have OWl : Hid (wr.ownsRow W0.heap.size 27 2 (.slice ua lo.length uc) lo.length (lo.flatMap encM)) := OW.out
            have HZ : Hid (UpTo (5000 - lo.length) rs 0 []) := UpTo.zero _ _
            obtain ⟨R, hR1, hR2⟩ : ∃ R : Nat, lo.length + R ≤ 5000 ∧ 5000 ≤ lo.length + R ∧ 5000 - lo.length = R := ⟨5000 - lo.length, by omega, by omega, rfl⟩
            rw [hR2.2] at OQ HZ
            have hR3 := hR2.1
            clear hR2 OW
            go_wp2_with fail
            go_loopw [4, 6] (fun x i ws => ∃ (k : Nat) (f : List (List Ml)), k ≤ rs.length ∧ i = .int .i64 k ∧ UpTo R rs k f ∧ ws.ownsRow W0.heap.size 27 2 x (lo ++ f.flatten).length ((lo ++ f.flatten).flatMap encM) ∧ Below W0.heap.size W0 ws) (fun _ i _ => rs.length - (intOf i).toNat)
            case atStart => exact ⟨0, [], by omega, rfl, HZ.out, by simpa using OWl.out, HB.out⟩
            case round =>
              obtain ⟨j, f, hj, rfl, hto, hown, hbel⟩ := hrel
              have TO : Hid (UpTo R rs j f) := hto
              have OA : Hid (wr.ownsRow W0.heap.size 27 2 u4 (lo ++ f.flatten).length ((lo ++ f.flatten).flatMap encM)) := hown
              have HB1 : Hid (Below W0.heap.size W0 wr) := hbel
              have hsr1 := hbel.size
              obtain ⟨r0, r1, r2⟩ := (QQ.out.below hbel hs0).cells
              have QR1 : Hid (QX wr w.heap.size (.int .i64 n) (.slice a lo.length cap) (.slice c rs.length cap2)) := QQ.out.below hbel hs0
              have hsum := hto.2.1
              have hfl : (lo ++ f.flatten).length ≤ lo.length + sumM f := by rw [List.length_append, sumM_flat]; omega
              have hfl2 : lo.length + sumM f ≤ (lo ++ f.flatten).length := by rw [List.length_append, sumM_flat]; omega
              obtain ⟨va, vc, rfl⟩ := (MlR.ownd hown).shape
              clear hto hown hbel HZ OWl
              by_cases hlt2 : j < rs.length
              · obtain ⟨b, off, cap', e1, lt, _, _, hv⟩ := (R0.out.2.below HB1.out (Nat.le_refl _)).at (by omega)
                injection e1 with e1 e9 e8
                subst e1 e8
                clear e9
                obtain ⟨l, hl⟩ := getX hlt2
                obtain ⟨u, hu, hpr⟩ := hv j l hl
                have HK : Hid (rs[j]? = some l) := hl
                have HU : Hid (∀ X, Reads .u8 X u l → Calls Try.prog 45 #[u] X (RunP X ((runF l).getD []))) := fun X hX => runOf_any u l X hX (HBY.out l (List.mem_of_getElem? hl)).1 (HBY.out l (List.mem_of_getElem? hl)).2
                have HP : Hid (Reads .u8 wr u l) := hpr
                obtain ⟨xa, xc, rfl, _⟩ := id hpr
                have p0 : (0 : Int) ≤ (j : Int) := by omega
                have p1 : (j : Int) < (rs.length : Int) := by omega
                clear hl hv hpr
                cases hrf : runF l with
                | none =>
                  have HE : Hid (∀ w', Below w.heap.size w w' → P (.returned (.tuple #[.slice none 0 0, .bool false])) w') := HNo.out (OQ.out.trans (TO.out.bad HK.out hrf))
                  rw [hrf] at HU
                  clear hrf
                  generalize (lo ++ f.flatten).length = tl at *
                  go_wp2_with fail
                  refine (HU.out _ HP.out).mono ?_
                  rintro e w2 ⟨v2, rfl, ho2, hb2⟩
                  have HX : Hid (P (.returned (.tuple #[.slice none 0 0, .bool false])) w2) := HE.out _ ((B0.out.trans (HB1.out.mono (by omega))).trans (hb2.mono (by omega)))
                  obtain ⟨ya, yc, rfl⟩ := (MlR.ownd (show w2.ownsRow wr.heap.size 27 2 v2 ([] : List Ml).length (([] : List Ml).flatMap encM) from ho2)).shape
                  clear hb2 ho2
                  go_wp2_with fail
                  exact HX.out
                | some x =>
                  obtain ⟨hx1, hx2, _, _⟩ := runF_inv hrf
                  rw [hrf] at HU
                  have hx0 : ((x.length : Int) == 0) = false := by
                    rw [beq_eq_false_iff_ne]
                    omega
                  by_cases hx : sumM f + x.length ≤ R
                  · have TO2 : Hid (UpTo R rs (j + 1) (f ++ [x])) := TO.out.step HK.out hrf hx
                    have HF : Hid (lo ++ (f ++ [x]).flatten = lo ++ f.flatten ++ x) := by show _ = _; simp
                    have htx : (lo ++ f.flatten).length + x.length ≤ 5000 := by omega
                    clear hrf hx TO hfl hfl2 hsum
                    generalize lo ++ f.flatten = t at *
                    obtain ⟨tx, htw, ht5⟩ : ∃ tx : Int, IntKind.i64.wrap ((t.length : Int) + (x.length : Int)) = tx ∧ ¬ 5000 < tx := ⟨_, rfl, by rw [IntKind.wrap_i64]; omega⟩
                    go_wp2_with fail
                    refine (HU.out _ HP.out).mono ?_
                    rintro e w2 ⟨v2, rfl, ho2, hb2⟩
                    have OX : Hid (w2.ownsRow wr.heap.size 27 2 v2 x.length (x.flatMap encM)) := ho2
                    have O2 : Hid (w2.ownsRow W0.heap.size 27 2 (.slice va t.length vc) t.length (t.flatMap encM)) := own_below OA.out hb2 (Nat.le_refl _)
                    have B2 : Hid (Below W0.heap.size W0 w2) := HB1.out.trans (hb2.mono hsr1)
                    have AP : Hid (AptM v2 (.slice va t.length vc)) := fun g g1 g2 => by
                      have k1 := (own_geM ho2 g1).1
                      have k2 := (own_geM OA.out g2).2
                      omega
                    obtain ⟨ya, yc, rfl⟩ := (MlR.ownd OX.out).shape
                    obtain ⟨WB, OB⟩ : ∃ WB : Nat, Hid (w2.ownsRow WB 27 2 (.slice ya x.length yc) x.length (x.flatMap encM)) := ⟨_, OX⟩
                    clear ho2 hb2 OA HB1 r0 r1 r2 OX
                    go_wp2_with fail
                    go_loopw [4, 8] (fun y i ws => ∃ (i2 : Nat), i2 ≤ x.length ∧ i = .int .i64 i2 ∧ ws.ownsRow W0.heap.size 27 2 y (t ++ x.take i2).length ((t ++ x.take i2).flatMap encM) ∧ ws.ownsRow WB 27 2 (.slice ya x.length yc) x.length (x.flatMap encM) ∧ AptM (.slice ya x.length yc) y ∧ Below W0.heap.size W0 ws) (fun _ i _ => x.length - (intOf i).toNat)
                    case atStart => exact ⟨0, by omega, rfl, by simpa using O2.out, OB.out, AP.out, B2.out⟩
                    case round =>
                      obtain ⟨m, hm, rfl, hown, hox, hap, hbel⟩ := hrel
                      have O3 : Hid (wr.ownsRow W0.heap.size 27 2 u4 (t ++ x.take m).length ((t ++ x.take m).flatMap encM)) := hown
                      have OX3 : Hid (wr.ownsRow WB 27 2 (.slice ya x.length yc) x.length (x.flatMap encM)) := hox
                      have AP3 : Hid (AptM (.slice ya x.length yc) u4) := hap
                      have B3 : Hid (Below W0.heap.size W0 wr) := hbel
                      have hs3 := hbel.size
                      obtain ⟨za, zc, rfl⟩ := (MlR.ownd hown).shape
                      clear hown hbel hap hox OB O2 B2 AP
                      by_cases hlt3 : m < x.length
                      · obtain ⟨b2, off2, cap3, e1, _, _, lt2, hv⟩ := MlR.at (MlR.ownd OX3.out) (by omega)
                        injection e1 with e1 e9 e8
                        subst e1 e8
                        clear e9
                        obtain ⟨z, hz⟩ := getX hlt3
                        obtain ⟨c1, c2⟩ := hv m z hz
                        have HT : Hid (t ++ x.take (m + 1) = (t ++ x.take m) ++ [z]) := by show _ = _; rw [take_snoc hz, List.append_assoc]
                        have hlk : (t ++ x.take m).length ≤ 5000 := by simp; omega
                        have p2 : (0 : Int) ≤ (m : Int) := by omega
                        have p3 : (m : Int) < (x.length : Int) := by omega
                        clear hv hz
                        generalize t ++ x.take m = tm at *
                        go_wp2_with (at_builtin; refine wpList_append_atK kM rfl _ _ rfl W0.heap.size _ tm rfl (O3.out.alloc _) wr.heap.size z rfl #[.int .i64 z.1, .int .i64 z.2] rfl (0, 0) (heap_alloc_new _ _) (by simp [kM]; omega) (by unfold maxLen; omega) (by simp; omega) ?_)
                        intro g gc w4 hown4 hb4 hg4 hl4
                        have O4 : Hid (w4.ownsRow W0.heap.size 27 2 (.slice (some ⟨g, 0, none⟩) (tm.length + 1) gc) (t ++ x.take (m + 1)).length ((t ++ x.take (m + 1)).flatMap encM)) := by show World.ownsRow _ _ _ _ _ _ _; rw [HT.out]; simpa [kM] using hown4
                        have B4 : Hid (Below W0.heap.size W0 w4) := (B3.out.alloc hs3 _).trans hb4
                        have OX4 : Hid (w4.ownsRow WB 27 2 (.slice (some ⟨b2, off2, none⟩) x.length yc) x.length (x.flatMap encM)) := (OX3.out.alloc _).kept hg4 AP3.out.or
                        have AP4 : Hid (AptM (.slice (some ⟨b2, off2, none⟩) x.length yc) (.slice (some ⟨g, 0, none⟩) (tm.length + 1) gc)) := fun q k1 k2 => by
                          injection k2 with k2
                          rcases hl4 with h4 | h4
                          · exact AP3.out q k1 (by rw [h4, ← k2])
                          · have := (own_geM OX3.out k1).2
                            have h5 : wr.heap.size ≤ g := by rw [h4]; simp
                            have h6 : g = q := k2
                            omega
                        clear hown4 hb4 hg4 hl4
                        go_wp2_with fail
                        go_roundw
                        case rel => exact ⟨m + 1, by omega, by go_num, O4.out, OX4.out, AP4.out, B4.out⟩
                        case measure => simp [intOf]; omega
                      · have ek : x.take m = x := List.take_of_length_le (by omega)
                        have O4 : Hid (wr.ownsRow W0.heap.size 27 2 (.slice za (t ++ x.take m).length zc) (lo ++ (f ++ [x]).flatten).length ((lo ++ (f ++ [x]).flatten).flatMap encM)) := by
                          show World.ownsRow _ _ _ _ _ _ _
                          have h := O3.out
                          rw [HF.out]
                          rw [ek] at h ⊢
                          exact h
                        clear ek O3
                        generalize (t ++ x.take m).length = tl at *
                        go_wp2_with fail
                        go_roundw
                        case rel => exact ⟨j + 1, f ++ [x], by omega, by go_num, TO2.out, O4.out, B3.out⟩
                        case measure => simp [intOf]; omega
                  · have HE : Hid (∀ w', Below w.heap.size w w' → P (.returned (.tuple #[.slice none 0 0, .bool false])) w') := HNo.out (OQ.out.trans (TO.out.much HK.out hrf (by omega)))
                    have htx : 5000 < (lo ++ f.flatten).length + x.length := by omega
                    have hty : (lo ++ f.flatten).length + x.length ≤ 7000 := by omega
                    clear hrf hx TO hfl hfl2 hsum OA
                    generalize (lo ++ f.flatten).length = tl at *
                    obtain ⟨tx, htw, ht5⟩ : ∃ tx : Int, IntKind.i64.wrap ((tl : Int) + (x.length : Int)) = tx ∧ 5000 < tx := ⟨_, rfl, by rw [IntKind.wrap_i64]; omega⟩
                    go_wp2_with fail
                    refine (HU.out _ HP.out).mono ?_
                    rintro e w2 ⟨v2, rfl, ho2, hb2⟩
                    have HX : Hid (P (.returned (.tuple #[.slice none 0 0, .bool false])) w2) := HE.out _ ((B0.out.trans (HB1.out.mono (by omega))).trans (hb2.mono (by omega)))
                    obtain ⟨ya, yc, rfl⟩ := (MlR.ownd (show w2.ownsRow wr.heap.size 27 2 v2 x.length (x.flatMap encM) from ho2)).shape
                    clear hb2 ho2
                    go_wp2_with fail
                    exact HX.out
              · have HX : Hid (P (.returned (.tuple #[.slice va (lo ++ f.flatten).length vc, .bool true])) wr) := HYes.out f (OQ.out.trans (TO.out.done (by omega))) _ _ (own_lower OA.out (by omega)) (B0.out.trans (HB1.out.mono (by omega)))
                clear TO OA hfl hfl2
                generalize (lo ++ f.flatten).length = tl at *
                go_wp2_with fail
                exact HX.out
      · have HE : Hid (∀ w', Below w.heap.size w w' → QdP w lo (quF n lo rs) (.returned (.tuple #[.slice none 0 0, .bool false])) w') := HNo.out (quF_runs h3)
        generalize QdP w lo (quF n lo rs) = P at *
        have hin := in_yes h0
        rw [hin] at HI
        have e2 : ¬ n ≤ (lo.length : Int) := by omega
        have e3 : (5000 : Int) < (rs.length : Int) := by omega
        clear hin HNo HYes
        go_enter Try.func30, Try.ntmps30
        go_wp2_with fail
        refine (HI.out _).mono ?_
        rintro e w1 ⟨rfl, rfl⟩
        go_wp2_with fail
        exact HE.out _ (hb _)
    · have HE : Hid (∀ w', Below w.heap.size w w' → QdP w lo (quF n lo rs) (.returned (.tuple #[.slice none 0 0, .bool false])) w') := HNo.out (quF_loose h2)
      generalize QdP w lo (quF n lo rs) = P at *
      have hin := in_yes h0
      rw [hin] at HI
      have e2 : n ≤ (lo.length : Int) := by omega
      clear hin HNo HYes
      go_enter Try.func30, Try.ntmps30
      go_wp2_with fail
      refine (HI.out _).mono ?_
      rintro e w1 ⟨rfl, rfl⟩
      go_wp2_with fail
      exact HE.out _ (hb _)
  · have HE : Hid (∀ w', Below w.heap.size w w' → QdP w lo (quF n lo rs) (.returned (.tuple #[.slice none 0 0, .bool false])) w') := HNo.out (quF_budget h0)
    generalize QdP w lo (quF n lo rs) = P at *
    have hin := in_no h0
    rw [hin] at HI
    clear hin HNo HYes
    go_enter Try.func30, Try.ntmps30
    go_wp2_with fail
    refine (HI.out _).mono ?_
    rintro e w1 ⟨rfl, rfl⟩
    go_wp2_with fail
    exact HE.out _ (hb _)
end Go.Proofs.Ytihghhmhgakkaaa

namespace Go.Proofs.Ytihghhmhgakkaaa
set_option maxRecDepth 100000
open Go.ChangeShapes Go.WideShapes Go.ChangeAt Go.RowKit

set_option maxHeartbeats 1000000 in
set_option maxRecDepth 100000 in
theorem refCount_any (n : Int) (vl vr : Value) (lo : List Ml) (rs : List (List Int)) (w : World) (h : QuR w vl vr lo rs) (hB : QuB lo rs) :
    Calls Try.prog 17 #[.agg #[.int .i64 n, vl, vr]] w (CntP w lo (quF n lo rs)) := by
  have HR : Hid (QuR w vl vr lo rs) := h
  have HU : Hid (∀ X, QuR X vl vr lo rs → Calls Try.prog 30 #[.agg #[.int .i64 n, vl, vr]] X (QdP X lo (quF n lo rs))) := fun X hX => queued_any n vl vr lo rs X hX hB
  obtain ⟨a, cap, rfl⟩ := h.1.shape
  obtain ⟨c, cap2, rfl, _⟩ := id h.2
  clear h hB
  generalize quF n lo rs = o at *
  have hb : ∀ o, Below w.heap.size w (w.alloc o) := fun o => below_alloc w o
  cases o with
  | none =>
    have HE : Hid (∀ w', Below w.heap.size w w' → CntP w lo none (.returned (.tuple #[.int .i64 0, .int .i64 9])) w') := fun w' hw => ⟨rfl, hw⟩
    generalize CntP w lo none = P at *
    go_enter Try.func17, Try.ntmps17
    go_wp2_with fail
    refine (HU.out _ (HR.out.below (hb _) (Nat.le_refl _))).mono ?_
    rintro e w1 ⟨v1, rfl, ho, hb1⟩
    have HX : Hid (P (.returned (.tuple #[.int .i64 0, .int .i64 9])) w1) := HE.out w1 ((hb _).trans (hb1.mono (by simp)))
    clear hb1 ho
    rw [Option.isSome_none]
    go_wp2_with fail
    exact HX.out
  | some f =>
    have HE : Hid (∀ w', Below w.heap.size w w' → CntP w lo (some f) (.returned (.tuple #[.int .i64 ((allQ lo (some f)).length : Nat), .int .i64 0])) w') := fun w' hw => ⟨by
      show _ = Ending.returned (.tuple #[.int .i64 ((lo.length + sumM f : Nat) : Int), .int .i64 0])
      rw [show (allQ lo (some f)).length = lo.length + sumM f by unfold allQ; rw [List.length_append, sumM_flat]], hw⟩
    generalize CntP w lo (some f) = P at *
    go_enter Try.func17, Try.ntmps17
    go_wp2_with fail
    refine (HU.out _ (HR.out.below (hb _) (Nat.le_refl _))).mono ?_
    rintro e w1 ⟨v1, rfl, ho, hb1⟩
    have HX : Hid (P (.returned (.tuple #[.int .i64 ((allQ lo (some f)).length : Nat), .int .i64 0])) w1) := HE.out w1 ((hb _).trans (hb1.mono (by simp)))
    obtain ⟨ya, yc, rfl⟩ := (MlR.ownd ho).shape
    clear hb1 ho HE HU
    generalize (allQ lo (some f)).length = tl at *
    rw [Option.isSome_some]
    go_wp2_with fail
    exact HX.out

set_option maxHeartbeats 1000000 in
set_option maxRecDepth 100000 in
theorem refDrained_any (n : Int) (vl vr : Value) (lo : List Ml) (rs : List (List Int)) (w : World) (h : QuR w vl vr lo rs) (hB : QuB lo rs) :
    Calls Try.prog 14 #[.agg #[.int .i64 n, vl, vr]] w (RefP w (errQ (quF n lo rs)) (drainF lo (quF n lo rs))) := by
  have HR : Hid (QuR w vl vr lo rs) := h
  have HU : Hid (∀ X, QuR X vl vr lo rs → Calls Try.prog 30 #[.agg #[.int .i64 n, vl, vr]] X (QdP X lo (quF n lo rs))) := fun X hX => queued_any n vl vr lo rs X hX hB
  have HQ : Hid (∀ f, quF n lo rs = some f → lo.length + sumM f ≤ 5000) := fun f hf => (quF_inv hf).2.2.2.2.2.2.1
  obtain ⟨a, cap, rfl⟩ := h.1.shape
  obtain ⟨c, cap2, rfl, _⟩ := id h.2
  clear h hB
  generalize quF n lo rs = o at *
  have hb : ∀ o, Below w.heap.size w (w.alloc o) := fun o => below_alloc w o
  cases o with
  | none =>
    have HE : Hid (∀ w', Below w.heap.size w w' → RefP w (errQ (none : Option (List (List Ml)))) (drainF lo none) (.returned (.tuple #[.slice none 0 0, .int .i64 9])) w') := fun w' hw => RefP.no (by decide) hw
    generalize RefP w (errQ (none : Option (List (List Ml)))) (drainF lo none) = P at *
    go_enter Try.func14, Try.ntmps14
    go_wp2_with fail
    refine (HU.out _ (HR.out.below (hb _) (Nat.le_refl _))).mono ?_
    rintro e w1 ⟨v1, rfl, ho, hb1⟩
    have HX : Hid (P (.returned (.tuple #[.slice none 0 0, .int .i64 9])) w1) := HE.out w1 ((hb _).trans (hb1.mono (by simp)))
    clear hb1 ho
    rw [Option.isSome_none]
    go_wp2_with fail
    exact HX.out
  | some f =>
    have hs := HQ.out f rfl
    have HE : Hid (∀ v w', w'.ownsRow w.heap.size 27 2 v (sortM (lo ++ f.flatten)).length ((sortM (lo ++ f.flatten)).flatMap encM) → Below w.heap.size w w' → RefP w (errQ (some f)) (drainF lo (some f)) (.returned (.tuple #[v, .int .i64 0])) w') := fun v w' ho hw => RefP.yes ho hw
    generalize RefP w (errQ (some f)) (drainF lo (some f)) = P at *
    have hl5 : (lo ++ f.flatten).length ≤ 5000 := by rw [List.length_append, sumM_flat]; exact hs
    go_enter Try.func14, Try.ntmps14
    go_wp2_with fail
    refine (HU.out _ (HR.out.below (hb _) (Nat.le_refl _))).mono ?_
    rintro e w1 ⟨v1, rfl, ho, hb1⟩
    have B1 : Hid (Below w.heap.size w w1) := (hb _).trans (hb1.mono (by simp))
    have M1 : Hid (MlR w1 v1 (lo ++ f.flatten)) := MlR.ownd ho
    obtain ⟨ya, yc, rfl⟩ := M1.out.shape
    clear hb1 ho HU
    rw [Option.isSome_some]
    generalize lo ++ f.flatten = t at *
    go_wp2_with fail
    refine (refMails_any _ t _ M1.out hl5).mono ?_
    rintro e w2 ⟨v2, rfl, ho2, hb2⟩
    have HX : Hid (P (.returned (.tuple #[v2, .int .i64 0])) w2) := HE.out v2 w2 (own_lower ho2 B1.out.size) (B1.out.trans (hb2.mono B1.out.size))
    clear ho2 hb2
    go_wp2_with fail
    exact HX.out
end Go.Proofs.Ytihghhmhgakkaaa

namespace Go.Proofs.Ytihghhmhgakkaaa
set_option maxRecDepth 100000
open Go.ChangeShapes Go.WideShapes Go.ChangeAt Go.RowKit Go.Sort

set_option maxHeartbeats 1000000 in
set_option maxRecDepth 100000 in
theorem sameMails_yes (va vb : Value) (es : List Ml) (w : World) (ha : MlR w va es) (hb : MlR w vb es) :
    Calls Try.prog 15 #[va, vb] w fun e w' => e = .returned (.bool true) ∧ Below w.heap.size w w' := by
  have HA : Hid (MlR w va es) := ha
  have HB : Hid (MlR w vb es) := hb
  obtain ⟨a, ca, rfl, hca, hma, _, _⟩ := ha
  obtain ⟨b, cb, rfl, hcb, hmb, _, _⟩ := hb
  unfold maxLen at hma hmb
  have hll : ((es.length : Int) != (es.length : Int)) = false := by simp
  go_enter Try.func15, Try.ntmps15
  go_wp2_with fail
  go_loopw [5] (fun i wr => ∃ k : Nat, k ≤ es.length ∧ i = .int .i64 k ∧ Below w.heap.size w wr) (fun i _ => es.length - (intOf i).toNat)
  case atStart => exact ⟨0, by omega, rfl, Below.refl _ _⟩
  case round =>
    obtain ⟨k, hk, rfl, hbel⟩ := hrel
    have HBL : Hid (Below w.heap.size w wr) := hbel
    clear hbel
    by_cases hlt : k < es.length
    · obtain ⟨xa, oa, cap', e1, _, _, la, hva⟩ := MlR.at (HA.out.below HBL.out (Nat.le_refl _)) (by omega)
      injection e1 with e1 _ e3
      subst e1 e3
      obtain ⟨xb, ob, cap', e1, _, _, lb, hvb⟩ := MlR.at (HB.out.below HBL.out (Nat.le_refl _)) (by omega)
      injection e1 with e1 _ e3
      subst e1 e3
      obtain ⟨x, hx⟩ := getX hlt
      have p0 : (0 : Int) ≤ (k : Int) := by omega
      have p1 : (k : Int) < (es.length : Int) := by omega
      obtain ⟨c1, c2⟩ := hva k x hx
      obtain ⟨d1, d2⟩ := hvb k x hx
      obtain ⟨xt, xc⟩ := x
      simp only at c1 c2 d1 d2
      clear hva hvb hx
      go_wp2_with fail
      go_quiet (fail)
      go_wp2_with fail
      go_roundw
      case rel => exact ⟨k + 1, by omega, by go_num, below_drewN HBL.out _⟩
      case measure => simp [intOf]; omega
    · go_wp2_with fail
      go_ret
      exact ⟨rfl, HBL.out⟩


set_option maxHeartbeats 1000000 in
theorem mails_any (v : Value) (es : List Ml) (w : World) (h : MlR w v es) (hl : es.length * 16 ≤ 140737488351232) :
    Calls Try.prog 23 #[v] w fun e w' => ∃ v', e = .returned v' ∧ w'.ownsRow w.heap.size 27 2 v' es.length (es.flatMap encM) ∧ Below w.heap.size w w' := by
  have HR : Hid (MlR w v es) := h
  obtain ⟨a, cap, rfl, hc, hm, _, _⟩ := h
  unfold maxLen at hm
  go_enter Try.func23, Try.ntmps23
  go_wp2_with (at_builtin; refine wpList_append_rowK kM rfl _ _ rfl w.heap.size _ ([] : List Ml) rfl (World.ownsRow_nil _ _ _ _) _ es rfl HR.out ?d1 ?d2 (Nat.le_refl _) ?_)
  case d1 => simp [kM]; omega
  case d2 => simp [maxLen]; omega
  intro v' w' hown hb _
  have OW : Hid (w'.ownsRow w.heap.size 27 2 v' es.length (es.flatMap encM)) := by
    show World.ownsRow _ _ _ _ _ _ _
    simpa [kM] using hown
  have HB : Hid (Below w.heap.size w w') := hb
  clear hown hb
  go_wp2_with fail
  go_ret
  exact ⟨_, rfl, OW.out, HB.out⟩
end Go.Proofs.Ytihghhmhgakkaaa

namespace Go.Proofs.Ytihghhmhgakkaaa
set_option maxRecDepth 100000
open Go.ChangeShapes Go.WideShapes Go.ChangeAt Go.RowKit

set_option maxHeartbeats 400000 in
theorem octets_any (v : Value) (xs : List Int) (w : World) (h : Reads .u8 w v xs) (hl : xs.length ≤ 140737488355328) :
    Calls Try.prog 24 #[v] w fun e w' =>
      ∃ v', e = .returned v' ∧ w'.ownsRow w.heap.size 5 1 v' xs.length (xs.map (Value.int .u8)) ∧ Below w.heap.size w w' := by
  obtain ⟨i0, hi, hz0, hz1, hz2⟩ := info_parts Try.info5
  obtain ⟨a, cap, rfl, hc, hm, ha, hcell⟩ := h
  cases a with
  | none =>
    have hcap := ha rfl
    have : xs = [] := List.eq_nil_of_length_eq_zero (by omega)
    subst this
    subst hcap
    clear hcell ha
    go_enter Try.func24, Try.ntmps24
    go_wp2_with (at_builtin; refine wpList_append_own_none rfl _ _ 50 rfl w.heap.size 5 i0 1 Try.underlying50 hi _ 0 [] rfl (World.ownsRow_nil _ _ _ _) rfl ?_)
    go_ret
    exact ⟨_, rfl, World.ownsRow_nil _ _ _ _, Below.refl _ _⟩
  | some x =>
    have HN : Hid (∀ (j : Nat) (u : Value), (xs.map (Value.int IntKind.u8))[j]? = some u → w.cell? (x.add j) = some u) := fun j u hj => by
      obtain ⟨hj1, rfl⟩ := getD_map hj
      exact hcell x rfl j hj1
    clear hcell ha
    go_enter Try.func24, Try.ntmps24
    go_wp2_with (at_builtin; refine wpList_append_own _ rfl _ _ 50 rfl w.heap.size 5 i0 (.int .u8 0) 1 1 Try.underlying50 hi hz0 hz1 hz2 rfl (by decide) _ 0 [] rfl (World.ownsRow_nil _ _ _ _) x xs.length cap (xs.map (Value.int .u8)) rfl (by simp) HN.out (bytes_oneCell _) ?d3 ?d4 ?d5 ?_)
    case d3 => unfold maxLen; simp; omega
    case d4 => simp; omega
    case d5 => exact Nat.le_refl _
    intro v' w1 hown' hgrow _
    have hbel : Below w.heap.size w w1 := (Below.refl _ _).grown hgrow (Nat.le_refl _) (fun k hk => by simp [Value.ownBlock] at hk)
    clear HN
    go_wp2
    go_ret
    exact ⟨v', rfl, by simpa using hown', hbel⟩
end Go.Proofs.Ytihghhmhgakkaaa

namespace Go.Proofs.Ytihghhmhgakkaaa
set_option maxRecDepth 100000
open Go.RowKit

/-- What the others must come to. -/
def postLast (P : Program) (o : Oper) (Q : Exit → Act → World → Prop) : Exit → Act → World → Prop
  | .normal, a, w => o.wp P a w (fun a' w' => Q .normal a' w') Q
  | e, a, w => Q e a w

/-- Each of the others waits for earlier ones alone; the last one waits for all. -/
def lastOK (md : Region.Mode) (ops : Array Oper) (o : Oper) : Bool :=
  o.guard.isNone && (List.range ops.size).all fun i =>
    (match ops[i]? with
      | some x => x.guard.isNone && x.after.toList.all (fun e => !Region.binds md e || decide (e.on < i))
      | none => false) && o.after.toList.any (fun e => Region.binds md e && e.on == i)
def lastIn (md : Region.Mode) (n : Nat) (o : Oper) : Bool := o.after.toList.all fun e => !Region.binds md e || decide (e.on < n)

section
variable {P : Program} {md : Region.Mode} {ops : Array Oper} {o : Oper} {Q : Exit → Act → World → Prop}

theorem wp_postLast {x : Oper} {a : Act} {w : World} {K : Act → World → Prop} (h : x.wp P a w K (postLast P o Q)) : x.wp P a w K Q := by
  unfold Oper.wp at *
  generalize (execOp a.eval x).run P w = r at *
  cases r with
  | ok n w' => cases n <;> exact h
  | halt e w' => cases e <;> exact h
theorem letsOut_postLast (h : LetsOut (postLast P o Q)) : LetsOut Q := h

theorem lastOK_guard (h : lastOK md ops o = true) : o.guard = none := by
  unfold lastOK at h
  rw [Bool.and_eq_true] at h
  simpa using h.1
theorem lastOK_at (h : lastOK md ops o = true) {i : Nat} {x : Oper} (hx : ops[i]? = some x) : x.guard = none ∧ (∀ e ∈ x.after, Region.binds md e = true → e.on < i) ∧ ∃ e ∈ o.after, Region.binds md e = true ∧ e.on = i := by
  unfold lastOK at h
  rw [Bool.and_eq_true] at h
  have hi : i < ops.size := (Array.getElem?_eq_some_iff.1 hx).1
  have := List.all_eq_true.1 h.2 i (List.mem_range.2 hi)
  rw [hx] at this
  simp only [Bool.and_eq_true] at this
  obtain ⟨⟨h1, h2⟩, h3⟩ := this
  refine ⟨by simpa using h1, fun e he hb => ?_, ?_⟩
  · have := List.all_eq_true.1 h2 e (Array.mem_toList_iff.2 he)
    rw [hb] at this
    simpa using this
  · obtain ⟨e, he, hb⟩ := List.any_eq_true.1 h3
    simp only [Bool.and_eq_true, beq_iff_eq] at hb
    exact ⟨e, Array.mem_toList_iff.1 he, hb.1, hb.2⟩

theorem getD_push_lt {l : Array Bool} {b d : Bool} {j : Nat} (h : j < l.size) : (l.push b).getD j d = l.getD j d := by
  simp [Array.getD, Array.getElem_push_lt h, h, Nat.lt_succ_of_lt h]
theorem getD_push_eq {l : Array Bool} {b d : Bool} : (l.push b).getD l.size d = b := by simp [Array.getD]
theorem getD_dflt {l : Array Bool} {j : Nat} (h : j < l.size) (d d' : Bool) : l.getD j d = l.getD j d' := by simp [Array.getD, h]

theorem ready_push {l : Array Bool} {b : Bool} (hs : l.size = ops.size) (h : lastOK md ops o = true) {j : Nat} (hj : j < ops.size) : j ∈ Region.ready md (ops.push o) (l.push b) ↔ j ∈ Region.ready md ops l := by
  rw [mem_ready, mem_ready, getD_push_lt (by omega)]
  have e : (ops.push o)[j]? = ops[j]? := by simp [Array.getElem?_push, Nat.ne_of_lt hj]
  rw [e]
  refine and_congr_right fun _ => ⟨?_, ?_⟩
  · rintro ⟨x, hx, ha⟩
    refine ⟨x, hx, fun e he hb => ?_⟩
    have := (lastOK_at h hx).2.1 e he hb
    have h2 := ha e he hb
    rwa [getD_push_lt (by omega)] at h2
  · rintro ⟨x, hx, ha⟩
    refine ⟨x, hx, fun e he hb => ?_⟩
    have := (lastOK_at h hx).2.1 e he hb
    rw [getD_push_lt (by omega)]
    exact ha e he hb
/-- Where nothing may come up, all have. -/
theorem ready_all {l : Array Bool} (hs : l.size = ops.size) (h : lastOK md ops o = true) (h0 : Region.ready md ops l = []) : ∀ j, j < ops.size → l.getD j false = true := by
  intro j
  induction j using Nat.strongRecOn with
  | _ j ih =>
    intro hj
    cases hl : l.getD j false
    · exfalso
      have : j ∈ Region.ready md ops l := by
        rw [mem_ready]
        refine ⟨by rw [getD_dflt (by omega) true false]; exact hl, ops[j], by simp [hj], fun e he hb => ?_⟩
        have := (lastOK_at h (Array.getElem?_eq_getElem hj)).2.1 e he hb
        exact ih e.on this (by omega)
      rw [h0] at this
      cases this
    · rfl
theorem ready_last {l : Array Bool} (hs : l.size = ops.size) (hin : lastIn md ops.size o = true) (hall : ∀ j, j < ops.size → l.getD j false = true) : ops.size ∈ Region.ready md (ops.push o) (l.push false) := by
  rw [mem_ready]
  refine ⟨by rw [← hs]; exact getD_push_eq, o, by simp, fun e he hb => ?_⟩
  have := List.all_eq_true.1 hin e (Array.mem_toList_iff.2 he)
  rw [hb] at this
  have hlt : e.on < ops.size := by simpa using this
  rw [getD_push_lt (by omega)]
  exact hall e.on hlt
theorem last_ready {l : Array Bool} (hs : l.size = ops.size) (h : lastOK md ops o = true) (hr : ops.size ∈ Region.ready md (ops.push o) (l.push false)) : Region.ready md ops l = [] := by
  rw [mem_ready] at hr
  obtain ⟨_, x, hx, ha⟩ := hr
  have ex : x = o := by simpa using hx.symm
  subst ex
  refine List.eq_nil_iff_forall_not_mem.2 fun j hj => ?_
  rw [mem_ready] at hj
  obtain ⟨h1, y, hy, _⟩ := hj
  have hjn : j < ops.size := (Array.getElem?_eq_some_iff.1 hy).1
  obtain ⟨_, _, e, he, hb, hon⟩ := lastOK_at h hy
  have := ha e he hb
  rw [hon, getD_push_lt (by omega), getD_dflt (by omega) false true, h1] at this
  cases this
theorem ready_done {l : Array Bool} (hs : l.size = ops.size) (h : lastOK md ops o = true) (h0 : Region.ready md ops l = []) : Region.ready md (ops.push o) (l.push true) = [] := by
  refine List.eq_nil_iff_forall_not_mem.2 fun j hj => ?_
  rcases Nat.lt_or_ge j ops.size with hlt | hge
  · rw [ready_push hs h hlt, h0] at hj; cases hj
  · rw [mem_ready] at hj
    obtain ⟨h1, y, hy, _⟩ := hj
    have hjn := (Array.getElem?_eq_some_iff.1 hy).1
    have ej : j = l.size := by simp at hjn; omega
    rw [ej, getD_push_eq] at h1
    cases h1

theorem wpAny_end {l : Array Bool} {a : Act} {w : World} (h0 : Region.ready md ops l = []) (h : Q .normal a w) : ∀ fuel, wpAny P md ops Q fuel l a w
  | 0 => ⟨h0, h⟩
  | _ + 1 => ⟨fun _ => h, by rw [h0]; simp⟩

theorem wpOp_last {l : Array Bool} {a : Act} {w : World} (hs : l.size = ops.size) (h : lastOK md ops o = true) (h0 : Region.ready md ops l = []) (hq : postLast P o Q .normal a w) (fuel : Nat) :
    wpOp P (ops.push o) Q ops.size (wpAny P md (ops.push o) Q fuel ((l.push false).setIfInBounds ops.size true)) a w := by
  unfold wpOp
  have e : (ops.push o)[ops.size]? = some o := by simp
  simp only [e]
  have hw : Region.wanted o (yielded (ops.push o) a.tmps) = true := by simp [Region.wanted, lastOK_guard h]
  rw [if_pos hw]
  refine .inl (Oper.wp_mono (fun a' w' h' => ?_) hq)
  have e2 : (l.push false).setIfInBounds ops.size true = l.push true := by
    rw [← hs]
    refine Array.ext_getElem? fun i => ?_
    rw [Array.getElem?_setIfInBounds, Array.getElem?_push, Array.getElem?_push]
    by_cases hi : l.size = i
    · subst hi; simp
    · simp [hi, Ne.symm hi]
  rw [e2]
  exact wpAny_end (ready_done hs h h0) h' _

theorem wpAny_last (h : lastOK md ops o = true) (hin : lastIn md ops.size o = true) : ∀ (fuel : Nat) (l : Array Bool) (a : Act) (w : World), l.size = ops.size →
    wpAny P md ops (postLast P o Q) fuel l a w → wpAny P md (ops.push o) Q (fuel + 1) (l.push false) a w := by
  intro fuel
  induction fuel with
  | zero =>
    intro l a w hs hp
    obtain ⟨h0, hq⟩ := hp
    refine ⟨fun h1 => ?_, fun i hi => ?_⟩
    · have := ready_last hs hin (ready_all hs h h0)
      rw [h1] at this; cases this
    · rcases Nat.lt_or_ge i ops.size with hlt | hge
      · rw [ready_push hs h hlt, h0] at hi; cases hi
      · have ei : i = ops.size := by
          obtain ⟨_, y, hy, _⟩ := mem_ready.1 hi
          have := (Array.getElem?_eq_some_iff.1 hy).1
          simp at this; omega
        subst ei
        exact wpOp_last hs h h0 hq _
  | succ fuel ih =>
    intro l a w hs hp
    obtain ⟨hq, hop⟩ := hp
    refine ⟨fun h1 => ?_, fun i hi => ?_⟩
    · have h0 : Region.ready md ops l = [] := List.eq_nil_iff_forall_not_mem.2 fun j hj => by
        have hjn : j < ops.size := by
          obtain ⟨_, y, hy, _⟩ := mem_ready.1 hj
          exact (Array.getElem?_eq_some_iff.1 hy).1
        have := (ready_push (b := false) hs h hjn).2 hj
        rw [h1] at this; cases this
      have := ready_last hs hin (ready_all hs h h0)
      rw [h1] at this; cases this
    · rcases Nat.lt_or_ge i ops.size with hlt | hge
      · have hi0 := (ready_push hs h hlt).1 hi
        have h1 := hop i hi0
        unfold wpOp at h1 ⊢
        have e : (ops.push o)[i]? = some ops[i] := by simp [Array.getElem?_push, Nat.ne_of_lt hlt, hlt]
        have e0 : ops[i]? = some ops[i] := by simp [hlt]
        simp only [e]
        simp only [e0] at h1
        have hg := (lastOK_at h e0).1
        have hw : ∀ t, Region.wanted ops[i] t = true := fun t => by simp [Region.wanted, hg]
        rw [if_pos (hw _)] at h1 ⊢
        have e2 : (l.push false).setIfInBounds i true = (l.setIfInBounds i true).push false := by
          refine Array.ext_getElem? fun j => ?_
          rw [Array.getElem?_setIfInBounds, Array.getElem?_push, Array.getElem?_push, Array.getElem?_setIfInBounds, Array.size_setIfInBounds, Array.size_push]
          by_cases hj : i = j
          · subst hj
            have h1 : i < l.size := by omega
            have h2 : i < l.size + 1 := by omega
            have h3 : ¬ i = l.size := by omega
            simp [h1, h2, h3]
          · simp [hj]
        rw [e2]
        rcases h1 with h1 | ⟨h1, h2⟩
        · exact .inl (wp_postLast (Oper.wp_mono (fun a' w' h' => ih _ a' w' (by simpa using hs) h') h1))
        · exact .inr ⟨h1, letsOut_postLast h2⟩
      · have ei : i = ops.size := by
          obtain ⟨_, y, hy, _⟩ := mem_ready.1 hi
          have := (Array.getElem?_eq_some_iff.1 hy).1
          simp at this; omega
        subst ei
        have h0 := last_ready hs h hi
        exact wpOp_last hs h h0 (hq h0) _

/-- The law. -/
theorem region_last {id : Nat} {a : Act} {w : World} {S : World → Prop} (hm : P.follows .mixedOrders = true) (h : lastOK .any ops o = true) (hin : lastIn .any ops.size o = true)
    (hp : wpAnyH P .any ops (postLast P o Q) S ops.size (Array.replicate ops.size false) a w.drew) : (Code.region id (ops.push o) true).wp P Q a w := by
  refine wp_region_any hm ?_
  have e1 : (ops.push o).size = ops.size + 1 := by simp
  have e2 : Array.replicate (ops.size + 1) false = (Array.replicate ops.size false).push false := Array.replicate_succ
  rw [e1, e2]
  exact wpAny_last h hin _ _ _ _ (by simp) (wpAny_of_held _ _ _ _ hp)
/-- An operation is taken first; its slot is named. -/
theorem takeH {S : World → Prop} {i : Nat} {oi : Oper} {v : Value} {d : Tmp} {fuel : Nat} {listed : Array Bool} {a : Act} {w : World} (hi : ops[i]? = some oi) (hd : oi.dst = some d)
    (hs : Region.noSelect ops = true) (hf : Region.free md ops listed i = true) (hr : (Region.ready md ops listed).contains i = true)
    (hQ : ∀ c a w, Q (.panic c) (a.put (some d) v) w → Q (.panic c) a w) (hw : Region.wanted oi (yielded ops a.tmps) = true) (hy : ∀ w, S w → (execOp a.eval oi).run P w = .ok (.value v) w) (hS : S w)
    (h : wpAnyH P md ops Q S fuel (listed.setIfInBounds i true) (a.put (some d) v) w) : wpAnyH P md ops Q S (fuel + 1) listed a w :=
  wpAnyH_take hi hs hf hr (by rw [hd]; exact hQ) (.inl ⟨hw, hy⟩) hS (by rw [hd]; exact h)
/-- Just one operation may come up, and is carried out; S is had again behind it. -/
theorem oneH {S : World → Prop} {i : Nat} {oi : Oper} {fuel : Nat} {listed : Array Bool} {a : Act} {w : World} (hi : ops[i]? = some oi) (hr : Region.ready md ops listed = [i]) (hg : oi.guard = none)
    (h : oi.wp P a w (fun a' w' => S w' ∧ wpAnyH P md ops Q S fuel (listed.setIfInBounds i true) a' w') Q) : wpAnyH P md ops Q S (fuel + 1) listed a w := by
  refine wpAnyH_all hr (by simp) fun j hj => ?_
  obtain rfl : j = i := by simpa using hj
  unfold wpOp
  simp only [hi]
  rw [if_pos (by simp [Region.wanted, hg])]
  exact .inl h
/-- A call that leaves the world as it was. -/
theorem call_same {oi : Oper} {a : Act} {w : World} {K : Act → World → Prop} {d : Tmp} {f : FuncId} {xs : Array Operand} {ats : Array TypeId} (hd : oi.dst = some d) (hop : oi.op = Op.call { callee := Callee.value (.func f), args := xs, argTypes := ats })
    (he : ∀ args w, (callFunc f args).run P w = .ok (.enter f args) w) {vs : Array Value} (hxs : xs.map a.eval = vs) {v : Value} (hc : Calls P f vs w fun e w' => e = .returned v ∧ w' = w) (hK : K (a.put (some d) v) w) : oi.wp P a w K Q := by
  unfold Oper.wp
  have hr : (execOp a.eval oi).run P w = .ok (.enter f vs) w := by
    have h2 : xs.map a.eval = vs := hxs
    simp [execOp, hop, resolve, invoke, Act.eval, Deferred.ofValue]
    have h3 := he (xs.map a.eval) w
    rw [h2] at h3
    rw [← h2] at h3 ⊢
    exact h3
  rw [hr, Oper.upon_enter]
  exact hc.mono (by rintro e w' ⟨rfl, rfl⟩; rw [hd]; exact hK)
/-- An append whose run is known. -/
theorem call_append {oi : Oper} {a : Act} {w w' : World} {K : Act → World → Prop} {d : Tmp} {s x : Operand} {t : TypeId} (hd : oi.dst = some d) (hop : oi.op = Op.call { callee := Callee.builtin Builtin.append, args := #[s, x], argTypes := #[t, t] })
    {v v2 v' : Value} (hs : a.eval s = v) (hx : a.eval x = v2) (hrun : (Builtin.append_ #[t, t] oi.type #[v, v2]).run P w = .ok v' w') (hK : K (a.put (some d) v') w') : oi.wp P a w K Q := by
  unfold Oper.wp
  simp [execOp, hop, resolve, invoke, builtin, hs, hx, hrun, Result.andThen]
  rw [Oper.upon_value, hd]
  exact hK
/-- An operation whose run is known. -/
theorem op_run {oi : Oper} {a : Act} {w w' : World} {K : Act → World → Prop} {d : Tmp} {v' : Value} (hd : oi.dst = some d) (hrun : (execOp a.eval oi).run P w = .ok (.value v') w') (hK : K (a.put (some d) v') w') : oi.wp P a w K Q := by
  unfold Oper.wp
  rw [hrun, Oper.upon_value, hd]
  exact hK
/-- The same for a region that is written out. -/
theorem region_lastF {id : Nat} {a : Act} {w : World} {S : World → Prop} (hm : P.follows .mixedOrders = true) (hf : ops.pop.push ops.back! = ops) (h : lastOK .any ops.pop ops.back! = true) (hin : lastIn .any ops.pop.size ops.back! = true)
    (hp : wpAnyH P .any ops.pop (postLast P ops.back! Q) S ops.pop.size (Array.replicate ops.pop.size false) a w.drew) : (Code.region id ops true).wp P Q a w := by
  have := region_last (id := id) hm h hin hp
  rwa [hf] at this
end
end Go.Proofs.Ytihghhmhgakkaaa

namespace Go.Proofs.Ytihghhmhgakkaaa
set_option maxRecDepth 100000
open Go.RowKit

section
variable {P : Program} {Q : Exit → Act → World → Prop}
/-- A call, its result and its world taken up. -/
theorem call_gets {oi : Oper} {a : Act} {w : World} {K : Act → World → Prop} {d : Tmp} {f : FuncId} {xs : Array Operand} {ats : Array TypeId} (hd : oi.dst = some d) (hop : oi.op = Op.call { callee := Callee.value (.func f), args := xs, argTypes := ats })
    (he : ∀ args w, (callFunc f args).run P w = .ok (.enter f args) w) {vs : Array Value} (hxs : xs.map a.eval = vs) {R : Value → World → Prop} (hc : Calls P f vs w fun e w' => ∃ v, e = .returned v ∧ R v w') (hK : ∀ v w', R v w' → K (a.put (some d) v) w') : oi.wp P a w K Q := by
  unfold Oper.wp
  have hr : (execOp a.eval oi).run P w = .ok (.enter f vs) w := by
    have h2 : xs.map a.eval = vs := hxs
    simp [execOp, hop, resolve, invoke, Act.eval, Deferred.ofValue]
    have h3 := he (xs.map a.eval) w
    rw [h2] at h3
    rw [← h2] at h3 ⊢
    exact h3
  rw [hr, Oper.upon_enter]
  exact hc.mono (by rintro e w' ⟨v, rfl, h⟩; rw [hd]; exact hK _ _ h)
/-- A call that gives up. -/
theorem call_up {oi : Oper} {a : Act} {w : World} {K : Act → World → Prop} {f : FuncId} {xs : Array Operand} {ats : Array TypeId} (hop : oi.op = Op.call { callee := Callee.value (.func f), args := xs, argTypes := ats })
    (he : ∀ args w, (callFunc f args).run P w = .ok (.enter f args) w) {vs : Array Value} (hxs : xs.map a.eval = vs) {R : World → Prop} {c : List PanicEntry} (hc : Calls P f vs w fun e w' => e = .panicked c ∧ R w') (hQ : ∀ w', R w' → Q (.panic c) a w') : oi.wp P a w K Q := by
  unfold Oper.wp
  have hr : (execOp a.eval oi).run P w = .ok (.enter f vs) w := by
    have h2 : xs.map a.eval = vs := hxs
    simp [execOp, hop, resolve, invoke, Act.eval, Deferred.ofValue]
    have h3 := he (xs.map a.eval) w
    rw [h2] at h3
    rw [← h2] at h3 ⊢
    exact h3
  rw [hr, Oper.upon_enter]
  exact hc.mono (by rintro e w' ⟨rfl, h⟩; exact hQ _ h)
/-- A store whose run is known. -/
theorem op_skip {oi : Oper} {a : Act} {w w' : World} {K : Act → World → Prop} (hd : oi.dst = none) (hrun : (execOp a.eval oi).run P w = .ok .skip w') (hK : K a w') : oi.wp P a w K Q := by
  unfold Oper.wp
  rw [hrun, Oper.upon_skip, hd]
  exact hK
/-- Just two operations may come up. -/
theorem twoH {ops : Array Oper} {md : Region.Mode} {S : World → Prop} {i j : Nat} {oi oj : Oper} {fuel : Nat} {listed : Array Bool} {a : Act} {w : World} (hi : ops[i]? = some oi) (hj : ops[j]? = some oj) (hr : Region.ready md ops listed = [i, j]) (gi : oi.guard = none) (gj : oj.guard = none)
    (h1 : oi.wp P a w (fun a' w' => S w' ∧ wpAnyH P md ops Q S fuel (listed.setIfInBounds i true) a' w') Q) (h2 : oj.wp P a w (fun a' w' => S w' ∧ wpAnyH P md ops Q S fuel (listed.setIfInBounds j true) a' w') Q) : wpAnyH P md ops Q S (fuel + 1) listed a w := by
  refine wpAnyH_all hr (by simp) fun k hk => ?_
  rcases (by simpa using hk : k = i ∨ k = j) with rfl | rfl
  · unfold wpOp
    simp only [hi]
    rw [if_pos (by simp [Region.wanted, gi])]
    exact .inl h1
  · unfold wpOp
    simp only [hj]
    rw [if_pos (by simp [Region.wanted, gj])]
    exact .inl h2
end
end Go.Proofs.Ytihghhmhgakkaaa

namespace Go.Proofs.Ytihghhmhgakkaaa
set_option maxRecDepth 100000
open Go.ChangeShapes Go.WideShapes Go.ChangeAt Go.RowKit

set_option maxHeartbeats 1000000 in
set_option maxRecDepth 100000 in
theorem queues_any (n : Int) (vl vr : Value) (lo : List Ml) (rs : List (List Int)) (w : World) (h : QuR w vl vr lo rs) (hB : QuB lo rs) :
    Calls Try.prog 9 #[.agg #[.int .i64 n, vl, vr]] w fun e w' => ∃ xl xr, e = .returned (.agg #[.int .i64 n, xl, xr]) ∧ QuR w' xl xr lo rs ∧ Below w.heap.size w w' := by
  have HR : Hid (QuR w vl vr lo rs) := h
  obtain ⟨a, cap, rfl⟩ := h.1.shape
  obtain ⟨c, cap2, rfl, hc2, hm2, _⟩ := id h.2
  have hl1 : lo.length * 16 ≤ 140737488351232 := hB.1.2
  have hl2 : rs.length * 24 ≤ 140737488351232 := hB.2.2
  have HL : Hid (∀ l ∈ rs, l.length ≤ 140737488351232) := fun l hl => (hB.2.1 l hl).2
  clear h hB
  go_enter Try.func9, Try.ntmps9
  go_wp2_with fail
  have Q0 : QX ((w.alloc (.cells #[.int .i64 n, .slice a lo.length cap, .slice c rs.length cap2] 25)).alloc (.cells #[.int .i64 0, .slice none 0 0, .slice none 0 0] 25)) w.heap.size (.int .i64 n) (.slice a lo.length cap) (.slice c rs.length cap2) := (QX.new w (.int .i64 n) (.slice a lo.length cap) (.slice c rs.length cap2)).below (below_alloc _ _) (by simp)
  have P0 : QX ((w.alloc (.cells #[.int .i64 n, .slice a lo.length cap, .slice c rs.length cap2] 25)).alloc (.cells #[.int .i64 0, .slice none 0 0, .slice none 0 0] 25)) (w.heap.size + 1) (.int .i64 0) (.slice none 0 0) (.slice none 0 0) := by
    have h := QX.new (w.alloc (.cells #[.int .i64 n, .slice a lo.length cap, .slice c rs.length cap2] 25)) (.int .i64 0) (.slice none 0 0) (.slice none 0 0)
    rwa [show (w.alloc (.cells #[.int .i64 n, .slice a lo.length cap, .slice c rs.length cap2] 25)).heap.size = w.heap.size + 1 by simp] at h
  have B0 : Hid (Below w.heap.size w ((w.alloc (.cells #[.int .i64 n, .slice a lo.length cap, .slice c rs.length cap2] 25)).alloc (.cells #[.int .i64 0, .slice none 0 0, .slice none 0 0] 25))) := (below_alloc _ _).alloc (by simp) _
  generalize (w.alloc (.cells #[.int .i64 n, .slice a lo.length cap, .slice c rs.length cap2] 25)).alloc (.cells #[.int .i64 0, .slice none 0 0, .slice none 0 0] 25) = W0 at *
  have hs0 := P0.lt
  have R0 : Hid (QuR W0 (.slice a lo.length cap) (.slice c rs.length cap2) lo rs) := HR.out.below B0.out (Nat.le_refl _)
  have QQ : Hid (QX W0 w.heap.size (.int .i64 n) (.slice a lo.length cap) (.slice c rs.length cap2)) := Q0
  have PP : Hid (QX W0 (w.heap.size + 1) (.int .i64 0) (.slice none 0 0) (.slice none 0 0)) := P0
  have KEEP : Hid (∀ V, Below W0.heap.size W0 V → V.cell? ⟨w.heap.size, 0, none⟩ = some (.int .i64 n) ∧ V.cell? ⟨w.heap.size, 1, none⟩ = some (.slice a lo.length cap) ∧ V.cell? ⟨w.heap.size, 2, none⟩ = some (.slice c rs.length cap2)) := fun V hV => (Q0.below hV (by omega)).cells
  obtain ⟨q0, q1, q2⟩ := Q0.cells
  clear Q0 P0 HR
  have em : ∀ args w, (callFunc 23 args).run Try.prog w = .ok (.enter 23 args) w := enters_of Try.func23 (by kernel_rfl) rfl
  have HSD : Hid (_ ∧ _ ∧ _) := KEEP.out W0.drew (Below.refl _ _).drew
  clear q0 q1 q2
  apply Hid.cut
  case h =>
    intro HG
    refine region_lastF (S := fun V => V.cell? ⟨w.heap.size, 0, none⟩ = some (.int .i64 n) ∧ V.cell? ⟨w.heap.size, 1, none⟩ = some (.slice a lo.length cap) ∧ V.cell? ⟨w.heap.size, 2, none⟩ = some (.slice c rs.length cap2)) (by kernel_rfl) rfl (by kernel_rfl) (by kernel_rfl) ?_
    simp only [List.pop_toArray, List.dropLast_cons_cons, List.dropLast_singleton, List.size_toArray, List.length_cons, List.length_nil, Nat.reduceAdd]
    refine takeH (i := 0) (v := .pointer (some ⟨w.heap.size, 0, none⟩)) (d := 5) rfl rfl (by kernel_rfl) (by kernel_rfl) (by kernel_rfl) (fun _ _ _ h => h) (by rfl) (fun V hV => by obtain ⟨v1, v2, v3⟩ := hV; go_simp) HSD.out ?_
    simp only [Act.put, List.setIfInBounds_toArray, List.set_cons_zero, List.set_cons_succ]
    refine takeH (i := 1) (v := .int .i64 n) (d := 6) rfl rfl (by kernel_rfl) (by kernel_rfl) (by kernel_rfl) (fun _ _ _ h => h) (by rfl) (fun V hV => by obtain ⟨v1, v2, v3⟩ := hV; go_simp) HSD.out ?_
    simp only [Act.put, List.setIfInBounds_toArray, List.set_cons_zero, List.set_cons_succ]
    refine takeH (i := 2) (v := .pointer (some ⟨w.heap.size, 1, none⟩)) (d := 7) rfl rfl (by kernel_rfl) (by kernel_rfl) (by kernel_rfl) (fun _ _ _ h => h) (by rfl) (fun V hV => by obtain ⟨v1, v2, v3⟩ := hV; go_simp) HSD.out ?_
    simp only [Act.put, List.setIfInBounds_toArray, List.set_cons_zero, List.set_cons_succ]
    refine takeH (i := 3) (v := .slice a lo.length cap) (d := 8) rfl rfl (by kernel_rfl) (by kernel_rfl) (by kernel_rfl) (fun _ _ _ h => h) (by rfl) (fun V hV => by obtain ⟨v1, v2, v3⟩ := hV; go_simp) HSD.out ?_
    simp only [Act.put, List.setIfInBounds_toArray, List.set_cons_zero, List.set_cons_succ]
    refine twoH (i := 4) (j := 6) rfl rfl (by kernel_rfl) rfl rfl (call_gets (d := 9) (f := 23) (xs := #[.tmp 8]) (ats := #[22]) rfl rfl em (vs := #[.slice a lo.length cap]) (by simp [Act.eval]) (mails_any _ lo _ (R0.out.1.below (Below.refl _ _).drew (Nat.le_refl _)) hl1) ?_) ?_
    · intro v2 w2 h2
      obtain ⟨ho2, hb2⟩ := h2
      have C2 : Below W0.heap.size W0 w2 := below_undrew hb2
      have HS2 : Hid (_ ∧ _ ∧ _) := KEEP.out w2 C2
      have HS3 : Hid (_ ∧ _ ∧ _) := KEEP.out (w2.alloc (.cells #[.int .i64 0, .slice none 0 0, .slice none 0 0] 25)) (C2.alloc C2.size _)
      obtain ⟨ya, yc, rfl⟩ := (MlR.ownd ho2).shape
      refine ⟨HS2.out, ?_⟩
      simp only [Act.put, List.setIfInBounds_toArray, List.set_cons_zero, List.set_cons_succ]
      refine takeH (i := 5) (v := .agg #[.int .i64 n, .slice ya lo.length yc, .slice none 0 0]) (d := 10) rfl rfl (by kernel_rfl) (by kernel_rfl) (by kernel_rfl) (fun _ _ _ h => h) (by rfl) (fun V hV => by obtain ⟨v1, v2, v3⟩ := hV; go_simp) HS2.out ?_
      simp only [Act.put, List.setIfInBounds_toArray, List.set_cons_zero, List.set_cons_succ]
      refine oneH (i := 6) rfl (by kernel_rfl) rfl (op_run (d := 3) (v' := .pointer (some ⟨w2.heap.size, 0, none⟩)) (w' := w2.alloc (.cells #[.int .i64 0, .slice none 0 0, .slice none 0 0] 25)) rfl (by go_simp) ⟨HS3.out, ?_⟩)
      simp only [Act.put, List.setIfInBounds_toArray, List.set_cons_zero, List.set_cons_succ]
      refine wpAnyH_done (by kernel_rfl) ?_ _
      have NX : Hid (QX (w2.alloc (.cells #[.int .i64 0, .slice none 0 0, .slice none 0 0] 25)) w2.heap.size (.int .i64 0) (.slice none 0 0) (.slice none 0 0)) := QX.new _ _ _ _
      have NM : Hid ((w2.alloc (.cells #[.int .i64 0, .slice none 0 0, .slice none 0 0] 25)).ownsRow W0.heap.size 27 2 (.slice ya lo.length yc) lo.length (lo.flatMap encM)) := (own_lower ho2 (by simp)).alloc _
      have NB : Hid (Below W0.heap.size W0 (w2.alloc (.cells #[.int .i64 0, .slice none 0 0, .slice none 0 0] 25))) := C2.alloc C2.size _
      have NL : Hid (W0.heap.size ≤ w2.heap.size) := C2.size
      obtain ⟨n0, n1, n2, n3, n4, n5⟩ := NX.out.all
      generalize w2.alloc (.cells #[.int .i64 0, .slice none 0 0, .slice none 0 0] 25) = V at *
      generalize w2.heap.size = b at *
      clear HS2 HS3 ho2 hb2 C2
      show Oper.wp _ _ _ _ _ _
      refine op_skip (w' := putQ V b (.int .i64 n) (.slice ya lo.length yc) (.slice none 0 0)) rfl (by unfold putQ; go_simp) ?_
      have FX : Hid (QX (putQ V b (.int .i64 n) (.slice ya lo.length yc) (.slice none 0 0)) b (.int .i64 n) (.slice ya lo.length yc) (.slice none 0 0)) := NX.out.put _ _ _
      have FM : Hid ((putQ V b (.int .i64 n) (.slice ya lo.length yc) (.slice none 0 0)).ownsRow W0.heap.size 27 2 (.slice ya lo.length yc) lo.length (lo.flatMap encM)) := NX.out.ownPut NM.out (by decide)
      have FB : Hid (Below W0.heap.size W0 (putQ V b (.int .i64 n) (.slice ya lo.length yc) (.slice none 0 0))) := below_putQ NB.out NL.out _ _ _
      clear n0 n1 n2 n3 n4 n5 NX NM NB
      generalize putQ V b (.int .i64 n) (.slice ya lo.length yc) (.slice none 0 0) = X at *
      clear V
      revert NL FB FM FX
      revert X
      revert b
      revert yc
      revert ya
      exact HG.out
    · have HS4 : Hid (_ ∧ _ ∧ _) := KEEP.out (W0.drew.alloc (.cells #[.int .i64 0, .slice none 0 0, .slice none 0 0] 25)) ((Below.refl _ _).drew.alloc (by simp) _)
      refine op_run (d := 3) (v' := .pointer (some ⟨W0.heap.size, 0, none⟩)) (w' := W0.drew.alloc (.cells #[.int .i64 0, .slice none 0 0, .slice none 0 0] 25)) rfl (by go_simp) ⟨HS4.out, ?_⟩
      simp only [Act.put, List.setIfInBounds_toArray, List.set_cons_zero, List.set_cons_succ]
      refine oneH (i := 4) rfl (by kernel_rfl) rfl (call_gets (d := 9) (f := 23) (xs := #[.tmp 8]) (ats := #[22]) rfl rfl em (vs := #[.slice a lo.length cap]) (by simp [Act.eval]) (mails_any _ lo _ (R0.out.1.below ((Below.refl _ _).drew.alloc (by simp) _) (Nat.le_refl _)) hl1) ?_)
      intro v2 w2 h2
      obtain ⟨ho2, hb2⟩ := h2
      have C2 : Below W0.heap.size W0 w2 := ((Below.refl _ _).drew.alloc (by simp) _).trans (hb2.mono (by simp))
      have HS2 : Hid (_ ∧ _ ∧ _) := KEEP.out w2 C2
      obtain ⟨ya, yc, rfl⟩ := (MlR.ownd ho2).shape
      refine ⟨HS2.out, ?_⟩
      simp only [Act.put, List.setIfInBounds_toArray, List.set_cons_zero, List.set_cons_succ]
      refine takeH (i := 5) (v := .agg #[.int .i64 n, .slice ya lo.length yc, .slice none 0 0]) (d := 10) rfl rfl (by kernel_rfl) (by kernel_rfl) (by kernel_rfl) (fun _ _ _ h => h) (by rfl) (fun V hV => by obtain ⟨v1, v2, v3⟩ := hV; go_simp) HS2.out ?_
      simp only [Act.put, List.setIfInBounds_toArray, List.set_cons_zero, List.set_cons_succ]
      refine wpAnyH_done (by kernel_rfl) ?_ _
      have NX : Hid (QX w2 W0.heap.size (.int .i64 0) (.slice none 0 0) (.slice none 0 0)) := newQ hb2
      have NM : Hid (w2.ownsRow W0.heap.size 27 2 (.slice ya lo.length yc) lo.length (lo.flatMap encM)) := own_lower ho2 (by simp)
      have NB : Hid (Below W0.heap.size W0 w2) := C2
      obtain ⟨b, hbe⟩ : ∃ b, W0.heap.size = b := ⟨_, rfl⟩
      have NL : Hid (W0.heap.size ≤ b) := Nat.le_of_eq hbe
      rw [hbe] at NX ⊢
      clear hbe HS2 HS4 ho2 hb2 C2
      obtain ⟨n0, n1, n2, n3, n4, n5⟩ := NX.out.all
      show Oper.wp _ _ _ _ _ _
      refine op_skip (w' := putQ w2 b (.int .i64 n) (.slice ya lo.length yc) (.slice none 0 0)) rfl (by unfold putQ; go_simp) ?_
      have FX : Hid (QX (putQ w2 b (.int .i64 n) (.slice ya lo.length yc) (.slice none 0 0)) b (.int .i64 n) (.slice ya lo.length yc) (.slice none 0 0)) := NX.out.put _ _ _
      have FM : Hid ((putQ w2 b (.int .i64 n) (.slice ya lo.length yc) (.slice none 0 0)).ownsRow W0.heap.size 27 2 (.slice ya lo.length yc) lo.length (lo.flatMap encM)) := NX.out.ownPut NM.out (by decide)
      have FB : Hid (Below W0.heap.size W0 (putQ w2 b (.int .i64 n) (.slice ya lo.length yc) (.slice none 0 0))) := below_putQ NB.out NL.out _ _ _
      clear n0 n1 n2 n3 n4 n5 NX NM NB
      generalize putQ w2 b (.int .i64 n) (.slice ya lo.length yc) (.slice none 0 0) = X at *
      clear w2
      revert NL FB FM FX
      revert X
      revert b
      revert yc
      revert ya
      exact HG.out
  case g =>
    intro ya yc b X NL FX FM FB
    clear KEEP HSD em
    have eo : ∀ args w, (callFunc 24 args).run Try.prog w = .ok (.enter 24 args) w := enters_of Try.func24 (by kernel_rfl) rfl
    go_wp2_with fail
    go_loopw [4] (fun i wr => ∃ (k : Nat) (u : Value), k ≤ rs.length ∧ i = .int .i64 k ∧ QX wr b (.int .i64 n) (.slice ya lo.length yc) u ∧ OwnBs wr W0.heap.size u (rs.take k) ∧ wr.ownsRow W0.heap.size 27 2 (.slice ya lo.length yc) lo.length (lo.flatMap encM) ∧ Below W0.heap.size W0 wr) (fun i _ => rs.length - (intOf i).toNat)
    case atStart => exact ⟨0, _, by omega, rfl, FX.out, OwnBs.nil _ _, FM.out, FB.out⟩
    case round =>
      obtain ⟨k, u, hk, rfl, hqx, hob, hom, hbel⟩ := hrel
      have QR : Hid (QX wr b (.int .i64 n) (.slice ya lo.length yc) u) := hqx
      have OB : Hid (OwnBs wr W0.heap.size u (rs.take k)) := hob
      have OM : Hid (wr.ownsRow W0.heap.size 27 2 (.slice ya lo.length yc) lo.length (lo.flatMap encM)) := hom
      have HB : Hid (Below W0.heap.size W0 wr) := hbel
      have hsr := hbel.size
      have Q1 := QQ.out.below hbel (by omega)
      have P1 : Hid (QX wr (w.heap.size + 1) (.int .i64 0) (.slice none 0 0) (.slice none 0 0)) := PP.out.below hbel (by omega)
      obtain ⟨q0, q1, q2⟩ := Q1.cells
      obtain ⟨z0, z1, z2⟩ := hqx.cells
      obtain ⟨ua, uc, hue⟩ : ∃ a c, u = .slice a (rs.take k).length c := by obtain ⟨a, c, e, _⟩ := hob.reads; exact ⟨a, c, e⟩
      have hqb : w.heap.size < W0.heap.size := by omega
      clear hqx hob hom hbel
      by_cases hlt : k < rs.length
      · obtain ⟨rb, ro, cap', e1, lt, _, _, hv⟩ := (R0.out.2.below HB.out (Nat.le_refl _)).at (by omega)
        obtain ⟨rb0, ro0, cap0, e2, lt0, _, _, hv0⟩ := R0.out.2.at (by omega)
        injection e1 with e1 e9 e3
        subst e1 e3
        injection e2 with e2 e8 e3
        injection e2 with e2
        injection e2 with e2 e7 _
        subst e2
        clear e9 e8 e7 e3 hv0
        obtain ⟨l, hl⟩ := getX hlt
        obtain ⟨t, ht, htr⟩ := hv k l hl
        have HP : Hid (Reads .u8 wr t l) := htr
        obtain ⟨la, lc, rfl, _⟩ := id htr
        have hll : l.length ≤ 140737488355328 := by have := HL.out l (List.mem_of_getElem? hl); omega
        have HT : Hid (rs.take (k + 1) = rs.take k ++ [l]) := take_snoc hl
        have p0 : (0 : Int) ≤ (k : Int) := by omega
        have p1 : (k : Int) < (rs.length : Int) := by omega
        have KEEP : Hid (∀ V, Kept (fun _ => False) wr V → V.cell? ⟨b, 2, none⟩ = some u ∧ V.cell? ⟨w.heap.size, 2, none⟩ = some (.slice (some ⟨rb, ro, none⟩) rs.length cap2) ∧ V.cell? ⟨rb, ro + k, none⟩ = some (.slice la l.length lc)) := fun V hV => ⟨(hV.cell (p := ⟨b, 2, none⟩) QR.out.lt (fun h => h)).trans z2, (hV.cell (p := ⟨w.heap.size, 2, none⟩) Q1.lt (fun h => h)).trans q2, (hV.cell (p := ⟨rb, ro + k, none⟩) lt (fun h => h)).trans ht⟩
        have KEEP2 : Hid (∀ V, Kept (fun q => u.ownBlock = some q) wr V → ¬ (u.ownBlock = some b) → (∀ q, u.ownBlock = some q → W0.heap.size ≤ q) → V.cell? ⟨b, 2, none⟩ = some u ∧ V.cell? ⟨w.heap.size, 2, none⟩ = some (.slice (some ⟨rb, ro, none⟩) rs.length cap2) ∧ V.cell? ⟨rb, ro + k, none⟩ = some (.slice la l.length lc)) := fun V hV hb hq => ⟨(hV.cell (p := ⟨b, 2, none⟩) QR.out.lt hb).trans z2, (hV.cell (p := ⟨w.heap.size, 2, none⟩) Q1.lt (fun h => by have := hq _ h; simp only at this; omega)).trans q2, (hV.cell (p := ⟨rb, ro + k, none⟩) lt (fun h => by have := hq _ h; simp only at this; omega)).trans ht⟩
        have HSD : Hid (_ ∧ _ ∧ _) := KEEP.out wr.drew (Kept.of (Below.refl _ _).drew)
        clear hv hl htr hue
        go_wp2_with fail
        refine region_lastF (S := fun V => V.cell? ⟨b, 2, none⟩ = some u ∧ V.cell? ⟨w.heap.size, 2, none⟩ = some (.slice (some ⟨rb, ro, none⟩) rs.length cap2) ∧ V.cell? ⟨rb, ro + k, none⟩ = some (.slice la l.length lc)) (by kernel_rfl) rfl (by kernel_rfl) (by kernel_rfl) ?_
        clear q0 q1 q2 z0 z1 z2 Q1
        simp only [List.pop_toArray, List.dropLast_cons_cons, List.dropLast_singleton, List.size_toArray, List.length_cons, List.length_nil, Nat.reduceAdd]
        refine takeH (i := 0) (v := .pointer (some ⟨b, 2, none⟩)) (d := 18) rfl rfl (by kernel_rfl) (by kernel_rfl) (by kernel_rfl) (fun _ _ _ h => h) (by rfl) (fun V hV => by obtain ⟨v1, v2, v3⟩ := hV; go_simp) HSD.out ?_
        simp only [Act.put, List.setIfInBounds_toArray, List.set_cons_zero, List.set_cons_succ]
        refine takeH (i := 1) (v := u) (d := 19) rfl rfl (by kernel_rfl) (by kernel_rfl) (by kernel_rfl) (fun _ _ _ h => h) (by rfl) (fun V hV => by obtain ⟨v1, v2, v3⟩ := hV; go_simp) HSD.out ?_
        simp only [Act.put, List.setIfInBounds_toArray, List.set_cons_zero, List.set_cons_succ]
        refine takeH (i := 2) (v := .pointer (some ⟨w.heap.size, 2, none⟩)) (d := 20) rfl rfl (by kernel_rfl) (by kernel_rfl) (by kernel_rfl) (fun _ _ _ h => h) (by rfl) (fun V hV => by obtain ⟨v1, v2, v3⟩ := hV; go_simp) HSD.out ?_
        simp only [Act.put, List.setIfInBounds_toArray, List.set_cons_zero, List.set_cons_succ]
        refine takeH (i := 3) (v := .slice (some ⟨rb, ro, none⟩) rs.length cap2) (d := 21) rfl rfl (by kernel_rfl) (by kernel_rfl) (by kernel_rfl) (fun _ _ _ h => h) (by rfl) (fun V hV => by obtain ⟨v1, v2, v3⟩ := hV; go_simp) HSD.out ?_
        simp only [Act.put, List.setIfInBounds_toArray, List.set_cons_zero, List.set_cons_succ]
        refine takeH (i := 4) (v := .int .i64 (k : Int)) (d := 22) rfl rfl (by kernel_rfl) (by kernel_rfl) (by kernel_rfl) (fun _ _ _ h => h) (by rfl) (fun V hV => by obtain ⟨v1, v2, v3⟩ := hV; go_simp) HSD.out ?_
        simp only [Act.put, List.setIfInBounds_toArray, List.set_cons_zero, List.set_cons_succ]
        refine takeH (i := 5) (v := .pointer (some ⟨rb, ro + k, none⟩)) (d := 23) rfl rfl (by kernel_rfl) (by kernel_rfl) (by kernel_rfl) (fun _ _ _ h => h) (by rfl) (fun V hV => by obtain ⟨v1, v2, v3⟩ := hV; go_simp) HSD.out ?_
        simp only [Act.put, List.setIfInBounds_toArray, List.set_cons_zero, List.set_cons_succ]
        refine takeH (i := 6) (v := .slice la l.length lc) (d := 24) rfl rfl (by kernel_rfl) (by kernel_rfl) (by kernel_rfl) (fun _ _ _ h => h) (by rfl) (fun V hV => by obtain ⟨v1, v2, v3⟩ := hV; go_simp) HSD.out ?_
        simp only [Act.put, List.setIfInBounds_toArray, List.set_cons_zero, List.set_cons_succ]
        refine oneH (i := 7) rfl (by kernel_rfl) rfl (call_gets (d := 25) (f := 24) (xs := #[.tmp 24]) (ats := #[50]) rfl rfl eo (vs := #[.slice la l.length lc]) (by simp [Act.eval]) (octets_any _ l _ (HP.out.below (Below.refl _ _).drew (Nat.le_refl _)) hll) ?_)
        intro v2 w2 h2
        obtain ⟨ho2, hb2⟩ := h2
        have C2 : Below wr.heap.size wr w2 := below_undrew hb2
        have HS2 : Hid (_ ∧ _ ∧ _) := KEEP.out w2 (Kept.of C2)
        refine ⟨HS2.out, ?_⟩
        simp only [Act.put, List.setIfInBounds_toArray, List.set_cons_zero, List.set_cons_succ]
        have A2 : Below wr.heap.size wr (w2.alloc (.cells #[v2] 50)) := C2.alloc C2.size _
        have HS3 : Hid (_ ∧ _ ∧ _) := KEEP.out (w2.alloc (.cells #[v2] 50)) (Kept.of A2)
        obtain ⟨ya2, yc2, rfl, _⟩ : ∃ ya2 yc2, v2 = .slice ya2 l.length yc2 ∧ True := by obtain ⟨x, y, e, _⟩ := reads_own ho2; exact ⟨x, y, e, trivial⟩
        refine oneH (i := 8) rfl (by kernel_rfl) rfl (op_run (d := 26) (v' := .slice (some ⟨w2.heap.size, 0, none⟩) 1 1) (w' := w2.alloc (.cells #[.slice ya2 l.length yc2] 50)) rfl (by go_simp) ⟨HS3.out, ?_⟩)
        simp only [Act.put, List.setIfInBounds_toArray, List.set_cons_zero, List.set_cons_succ]
        have OB2 : OwnBs (w2.alloc (.cells #[.slice ya2 l.length yc2] 50)) W0.heap.size u (rs.take k) := OB.out.kept (Kept.of (S := fun _ => False) A2) (fun _ _ h => h)
        obtain ⟨g, gc, w3, hrun, hob3, hg3, _⟩ := run_append_bs 23 W0.heap.size u (rs.take k) OB2 w2.heap.size (.slice ya2 l.length yc2) l (0, 0) (heap_alloc_new _ _) ((own_lower ho2 (by simp; omega)).alloc _) (by simp; omega) (by have := A2.size; omega)
        obtain ⟨us, hus⟩ := OB2.row
        have K3 : Kept (fun q => u.ownBlock = some q) wr w3 := (Kept.of (S := fun q => u.ownBlock = some q) A2).grown hg3 (fun q hq => .inl hq)
        have hub : ¬ (u.ownBlock = some b) := fun h => own_block hus h ((QX.below QR.out A2 (by have := QR.out.lt; omega))) (by decide) rfl
        have HS4 : Hid (_ ∧ _ ∧ _) := KEEP2.out w3 K3 hub (fun q hq => (own_geB hus hq).1)
        refine oneH (i := 9) rfl (by kernel_rfl) rfl (call_append (d := 27) (s := .tmp 19) (x := .tmp 26) (t := 23) rfl rfl (v := u) (v2 := .slice (some ⟨w2.heap.size, 0, none⟩) 1 1) (by simp [Act.eval]) (by simp [Act.eval]) hrun ⟨HS4.out, ?_⟩)
        simp only [Act.put, List.setIfInBounds_toArray, List.set_cons_zero, List.set_cons_succ]
        refine takeH (i := 10) (v := .pointer (some ⟨b, 2, none⟩)) (d := 28) rfl rfl (by kernel_rfl) (by kernel_rfl) (by kernel_rfl) (fun _ _ _ h => h) (by rfl) (fun V hV => by obtain ⟨v1, v2, v3⟩ := hV; go_simp) HS4.out ?_
        simp only [Act.put, List.setIfInBounds_toArray, List.set_cons_zero, List.set_cons_succ]
        refine wpAnyH_done (by kernel_rfl) ?_ _
        have Q3 : Hid (QX w3 b (.int .i64 n) (.slice ya lo.length yc) u) := QR.out.kept K3 hub
        have B3 : Hid (Below W0.heap.size W0 w3) := HB.out.trans (K3.below hsr (fun q hq => (own_geB hus hq).1))
        have M3 : Hid (w3.ownsRow W0.heap.size 27 2 (.slice ya lo.length yc) lo.length (lo.flatMap encM)) := K3.own OM.out (fun q hq h => by have h1 := own_apart OB2.row.choose_spec ((own_below OM.out A2 (Nat.le_refl _))) (by decide); rcases h1 with h1 | h1; (rw [h1] at h; cases h); exact h1 (h.trans hq.symm))
        have O3 : Hid (OwnBs w3 W0.heap.size (.slice (some ⟨g, 0, none⟩) ((rs.take k).length + 1) gc) (rs.take (k + 1))) := by show OwnBs _ _ _ _; rw [HT.out]; exact hob3
        clear hob3 hg3 hrun hus hub K3 OB2 HS2 HS3 HS4 ho2 hb2 C2 A2 OB OM HB QR KEEP KEEP2 HSD
        generalize (rs.take k).length + 1 = tl at *
        obtain ⟨z0, z1, z2, z3, z4, z5⟩ := Q3.out.all
        show Oper.wp _ _ _ _ _ _
        go_wp2_with fail
        go_roundw
        case rel => exact ⟨k + 1, _, by omega, by go_num, Q3.out.set2 _, O3.out.boxQ Q3.out, Q3.out.own M3.out (by decide), B3.out.setCell NL.out _⟩
        case measure => simp [intOf]; omega
      · have ek : rs.take k = rs := List.take_of_length_le (by omega)
        have OR : Hid (QuR wr (.slice ya lo.length yc) u lo rs) := ⟨MlR.ownd OM.out, by have := OB.out.reads; rwa [ek] at this⟩
        have PA : Hid (QX wr (w.heap.size + 1) (.int .i64 0) (.slice none 0 0) (.slice none 0 0)) := P1.out
        rw [ek] at hue OB
        subst hue
        obtain ⟨y0, y1, y2, y3, y4, y5⟩ := PA.out.all
        clear ek
        go_wp2_with fail
        have r := (PA.out.put (.int .i64 n) (.slice ya lo.length yc) (.slice ua rs.length uc)).cells
        unfold putQ at r
        obtain ⟨r0, r1, r2⟩ := r
        refine bodyPost_ret (v := .agg #[.int .i64 n, .slice ya lo.length yc, .slice ua rs.length uc]) (by simp [results, Try.results9, go_sem, r0, r1, r2]) rfl ⟨_, _, rfl, ⟨MlR.ownd (PA.out.ownPut OM.out (by decide)), (OwnBs.putQ PA.out OB.out).reads⟩, ?_⟩
        exact below_putQ (B0.out.trans (HB.out.mono (by omega))) (Nat.le_succ _) _ _ _
end Go.Proofs.Ytihghhmhgakkaaa
