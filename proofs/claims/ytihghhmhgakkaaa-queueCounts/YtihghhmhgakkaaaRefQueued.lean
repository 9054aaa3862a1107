/-
  Contracts of the document's own queued, QueueCount and Drained.
-/
import Derived.Test.YtihghhmhgakkaaaRefRun
import Derived.Test.YtihghhmhgakkaaaAppendAt
import Derived.Test.YtihghhmhgakkaaaUnpackAll
import Derived.Test.YtihghhmhgakkaaaRefMails
namespace Go.Proofs.Ytihghhmhgakkaaa
set_option maxRecDepth 100000
open Go.ChangeShapes Go.WideShapes Go.ChangeAt Go.RowKit

/-- All mail. -/
def allQ (lo : List Ml) : Option (List (List Ml)) → List Ml
  | none => []
  | some f => lo ++ f.flatten
/-- What queued answers. -/
def QdP (w : World) (lo : List Ml) (o : Option (List (List Ml))) (e : Ending) (w' : World) : Prop := ∃ v', e = .returned (.tuple #[v', .bool o.isSome]) ∧ w'.ownsRow w.heap.size 27 2 v' (allQ lo o).length ((allQ lo o).flatMap encM) ∧ Below w.heap.size w w'
theorem QdP.no {w w' : World} {lo : List Ml} (h : Below w.heap.size w w') : QdP w lo none (.returned (.tuple #[.slice none 0 0, .bool false])) w' := ⟨_, rfl, World.ownsRow_nil _ _ _ _, h⟩
theorem quF_budget {n : Int} {lo : List Ml} {rs : List (List Int)} (h : ¬ (1 ≤ n ∧ n ≤ 1000)) : quF n lo rs = none := quF_no (by rw [Bool.eq_false_iff]; intro e; exact h ⟨(okQ_iff.1 e).1.1, (okQ_iff.1 e).1.2.1⟩)
theorem quF_loose {n : Int} {lo : List Ml} {rs : List (List Int)} (h : ¬ (lo.length : Int) < n) : quF n lo rs = none := quF_no (by rw [Bool.eq_false_iff]; intro e; exact h (okQ_iff.1 e).1.2.2.1)
theorem quF_runs {n : Int} {lo : List Ml} {rs : List (List Int)} (h : ¬ rs.length ≤ 5000) : quF n lo rs = none := quF_no (by rw [Bool.eq_false_iff]; intro e; exact h (okQ_iff.1 e).1.2.2.2)
theorem quF_barred {n : Int} {lo : List Ml} {rs : List (List Int)} (h : mayA lo = false) : quF n lo rs = none := quF_no (by rw [Bool.eq_false_iff]; intro e; rw [(okQ_iff.1 e).2] at h; cases h)

set_option maxHeartbeats 4000000 in
set_option maxRecDepth 100000 in
theorem queued_any (n : Int) (vl vr : Value) (lo : List Ml) (rs : List (List Int)) (w : World) (h : QuR w vl vr lo rs) (hB : QuB lo rs) :
    Calls Try.prog 30 #[.agg #[.int .i64 n, vl, vr]] w (QdP w lo (quF n lo rs)) := by
  have HR : Hid (QuR w vl vr lo rs) := h
  have HBY : Hid (∀ b ∈ rs, (∀ x ∈ b, 0 ≤ x ∧ x ≤ 255) ∧ b.length ≤ 140737488351232) := hB.2.1
  obtain ⟨a, cap, rfl, hc1, hm1, _⟩ := id h.1
  obtain ⟨c, cap2, rfl, hc2, hm2, _⟩ := id h.2
  unfold maxLen at hm1 hm2
  clear h hB
  have HI : Hid (∀ X, Calls Try.prog 44 #[.int .i64 n, .int .i64 1, .int .i64 1000] X fun e w' => e = .returned (.bool (inB n 1 1000)) ∧ w' = X) := fun X => in_any n 1 1000 X
  have HNo : Hid (quF n lo rs = none → ∀ w', Below w.heap.size w w' → QdP w lo (quF n lo rs) (.returned (.tuple #[.slice none 0 0, .bool false])) w') := fun e w' hw => by rw [e]; exact QdP.no hw
  have HYes : Hid (∀ f, quF n lo rs = some f → ∀ v w', w'.ownsRow w.heap.size 27 2 v (lo ++ f.flatten).length ((lo ++ f.flatten).flatMap encM) → Below w.heap.size w w' → QdP w lo (quF n lo rs) (.returned (.tuple #[v, .bool true])) w') := fun f e v w' ho hw => by rw [e]; exact ⟨_, rfl, ho, hw⟩
  have hb : ∀ o, Below w.heap.size w (w.alloc o) := fun o => below_alloc w o
  by_cases h0 : 1 ≤ n ∧ n ≤ 1000
  · by_cases h2 : (lo.length : Int) < n
    · by_cases h3 : rs.length ≤ 5000
      · have hin := in_yes h0
        rw [hin] at HI
        have e2 : ¬ n ≤ (lo.length : Int) := by omega
        have e3 : ¬ (5000 : Int) < (rs.length : Int) := by omega
        have h4 : lo.length < 1000 := by omega
        have HQ : Hid (mayA lo = true → quF n lo rs = unpF (5000 - lo.length) rs) := fun hm => quF_yes (okQ_iff.2 ⟨⟨h0.1, h0.2, h2, h3⟩, hm⟩)
        have HBar : Hid (mayA lo = false → quF n lo rs = none) := fun hm => quF_barred hm
        generalize QdP w lo (quF n lo rs) = P at *
        generalize quF n lo rs = o at *
        clear hin
        go_enter Try.func30, Try.ntmps30
        go_wp2_with fail
        refine (HI.out _).mono ?_
        rintro e w1 ⟨rfl, rfl⟩
        have Q0 := QX.new w (.int .i64 n) (.slice a lo.length cap) (.slice c rs.length cap2)
        have B0 : Hid (Below w.heap.size w (w.alloc (.cells #[.int .i64 n, .slice a lo.length cap, .slice c rs.length cap2] 25))) := hb _
        have hs0 : w.heap.size < (w.alloc (.cells #[.int .i64 n, .slice a lo.length cap, .slice c rs.length cap2] 25)).heap.size := by simp
        have R0 : Hid (QuR (w.alloc (.cells #[.int .i64 n, .slice a lo.length cap, .slice c rs.length cap2] 25)) (.slice a lo.length cap) (.slice c rs.length cap2) lo rs) := HR.out.below (hb _) (Nat.le_refl _)
        generalize w.alloc (.cells #[.int .i64 n, .slice a lo.length cap, .slice c rs.length cap2] 25) = W0 at *
        obtain ⟨q0, q1, q2⟩ := Q0.cells
        have QQ : Hid (QX W0 w.heap.size (.int .i64 n) (.slice a lo.length cap) (.slice c rs.length cap2)) := Q0
        clear Q0 HR HI hb h0
        go_wp2_with fail
        go_loopw [4, 5] (fun x i wr => ∃ k : Nat, k ≤ lo.length ∧ i = .int .i64 k ∧ mayA (lo.take k) = true ∧ wr.ownsRow W0.heap.size 27 2 x (lo.take k).length ((lo.take k).flatMap encM) ∧ Below W0.heap.size W0 wr) (fun _ i _ => lo.length - (intOf i).toNat)
        case atStart => exact ⟨0, by omega, rfl, rfl, World.ownsRow_nil _ _ _ _, Below.refl _ _⟩
        case round =>
          obtain ⟨k, hk, rfl, hmy, hown, hbel⟩ := hrel
          have MY : Hid (mayA (lo.take k) = true) := hmy
          have OW : Hid (wr.ownsRow W0.heap.size 27 2 u4 (lo.take k).length ((lo.take k).flatMap encM)) := hown
          have HB : Hid (Below W0.heap.size W0 wr) := hbel
          have hsr := hbel.size
          obtain ⟨r0, r1, r2⟩ := (QQ.out.below hbel hs0).cells
          have QR : Hid (QX wr w.heap.size (.int .i64 n) (.slice a lo.length cap) (.slice c rs.length cap2)) := QQ.out.below hbel hs0
          obtain ⟨ua, uc, rfl⟩ := (MlR.ownd hown).shape
          clear hmy hown hbel q0 q1 q2
          by_cases hlt : k < lo.length
          · obtain ⟨b, off, cap', e1, _, _, lt, hv⟩ := MlR.at (R0.out.1.below HB.out (Nat.le_refl _)) (by omega)
            injection e1 with e1 e9 e8
            subst e1 e8
            clear e9
            obtain ⟨x, hx⟩ := getX hlt
            obtain ⟨c1, c2⟩ := hv k x hx
            have HX : Hid (lo[k]? = some x) := hx
            have p0 : (0 : Int) ≤ (k : Int) := by omega
            have p1 : (k : Int) < (lo.length : Int) := by omega
            clear hv hx
            have HM : Hid (∀ X, Calls Try.prog 31 #[.agg #[.int .i64 x.1, .int .i64 x.2]] X fun e w' => e = .returned (.bool (mayM x)) ∧ Below X.heap.size X w') := fun X => mailMay_any x X
            cases hmx : mayM x
            · have HE : Hid (∀ w', Below w.heap.size w w' → P (.returned (.tuple #[.slice none 0 0, .bool false])) w') := HNo.out (HBar.out (mayA_hit HX.out hmx))
              rw [hmx] at HM
              clear hmx
              go_wp2_with fail
              refine (HM.out _).mono ?_
              rintro e w2 ⟨rfl, hb2⟩
              have HX : Hid (P (.returned (.tuple #[.slice none 0 0, .bool false])) w2) := HE.out _ ((B0.out.trans (HB.out.mono (by omega))).trans (hb2.mono (by omega)))
              clear hb2
              go_wp2_with fail
              exact HX.out
            · have MY2 : Hid (mayA (lo.take (k + 1)) = true) := mayA_cut HX.out MY.out hmx
              have HT : Hid (lo.take (k + 1) = lo.take k ++ [x]) := take_snoc HX.out
              have hlk : (lo.take k).length ≤ 1000 := by simp; omega
              rw [hmx] at HM
              clear hmx
              go_wp2_with fail
              refine (HM.out _).mono ?_
              rintro e w2 ⟨rfl, hb2⟩
              have O2 : Hid (w2.ownsRow W0.heap.size 27 2 (.slice ua (lo.take k).length uc) (lo.take k).length ((lo.take k).flatMap encM)) := own_below OW.out hb2 (Nat.le_refl _)
              have B2 : Hid (Below W0.heap.size W0 w2) := HB.out.trans (hb2.mono hsr)
              have hs2 := B2.out.size
              have d1 := (hb2.cell (p := ⟨b, off + k * 2, none⟩) lt).trans c1
              have d2 := (hb2.cell (p := ⟨b, off + k * 2 + 1, none⟩) lt).trans c2
              obtain ⟨s0, s1, s2⟩ := (QR.out.below hb2 (by omega)).cells
              clear hb2 OW HB r0 r1 r2 c1 c2 QR
              generalize lo.take k = t at *
              go_wp2_with (at_builtin; refine wpList_append_newK kM rfl _ _ rfl W0.heap.size _ t rfl (O2.out.alloc _) w2.heap.size x rfl #[.int .i64 x.1, .int .i64 x.2] rfl (0, 0) (heap_alloc_new _ _) (by simp [kM]; omega) (by unfold maxLen; omega) (by simp; omega) ?_)
              intro g gc w3 hown3 hb3 _
              have O3 : Hid (w3.ownsRow W0.heap.size 27 2 (.slice (some ⟨g, 0, none⟩) (t.length + 1) gc) (lo.take (k + 1)).length ((lo.take (k + 1)).flatMap encM)) := by show World.ownsRow _ _ _ _ _ _ _; rw [HT.out]; simpa [kM] using hown3
              have B3 : Hid (Below W0.heap.size W0 w3) := (B2.out.alloc hs2 _).trans hb3
              clear hown3 hb3
              go_wp2_with fail
              go_roundw
              case rel => exact ⟨k + 1, by omega, by go_num, MY2.out, O3.out, B3.out⟩
              case measure => simp [intOf]; omega
          · have ek : lo.take k = lo := List.take_of_length_le (by omega)
            rw [ek] at MY OW ⊢
            have OQ : Hid (o = unpF (5000 - lo.length) rs) := HQ.out MY.out
            clear HQ HBar MY ek
            have OWl : Hid (wr.ownsRow W0.heap.size 27 2 (.slice ua lo.length uc) lo.length (lo.flatMap encM)) := OW.out
            have HZ : Hid (UpTo (5000 - lo.length) rs 0 []) := UpTo.zero _ _
            obtain ⟨R, hR1, hR2⟩ : ∃ R : Nat, lo.length + R ≤ 5000 ∧ 5000 ≤ lo.length + R ∧ 5000 - lo.length = R := ⟨5000 - lo.length, by omega, by omega, rfl⟩
            rw [hR2.2] at OQ HZ
            have hR3 := hR2.1
            clear hR2 OW
            go_wp2_with fail
            go_loopw [4, 6] (fun x i ws => ∃ (k : Nat) (f : List (List Ml)), k ≤ rs.length ∧ i = .int .i64 k ∧ UpTo R rs k f ∧ ws.ownsRow W0.heap.size 27 2 x (lo ++ f.flatten).length ((lo ++ f.flatten).flatMap encM) ∧ Below W0.heap.size W0 ws) (fun _ i _ => rs.length - (intOf i).toNat)
            case atStart => exact ⟨0, [], by omega, rfl, HZ.out, by simpa using OWl.out, HB.out⟩
            case round =>
              obtain ⟨j, f, hj, rfl, hto, hown, hbel⟩ := hrel
              have TO : Hid (UpTo R rs j f) := hto
              have OA : Hid (wr.ownsRow W0.heap.size 27 2 u4 (lo ++ f.flatten).length ((lo ++ f.flatten).flatMap encM)) := hown
              have HB1 : Hid (Below W0.heap.size W0 wr) := hbel
              have hsr1 := hbel.size
              obtain ⟨r0, r1, r2⟩ := (QQ.out.below hbel hs0).cells
              have QR1 : Hid (QX wr w.heap.size (.int .i64 n) (.slice a lo.length cap) (.slice c rs.length cap2)) := QQ.out.below hbel hs0
              have hsum := hto.2.1
              have hfl : (lo ++ f.flatten).length ≤ lo.length + sumM f := by rw [List.length_append, sumM_flat]; omega
              have hfl2 : lo.length + sumM f ≤ (lo ++ f.flatten).length := by rw [List.length_append, sumM_flat]; omega
              obtain ⟨va, vc, rfl⟩ := (MlR.ownd hown).shape
              clear hto hown hbel HZ OWl
              by_cases hlt2 : j < rs.length
              · obtain ⟨b, off, cap', e1, lt, _, _, hv⟩ := (R0.out.2.below HB1.out (Nat.le_refl _)).at (by omega)
                injection e1 with e1 e9 e8
                subst e1 e8
                clear e9
                obtain ⟨l, hl⟩ := getX hlt2
                obtain ⟨u, hu, hpr⟩ := hv j l hl
                have HK : Hid (rs[j]? = some l) := hl
                have HU : Hid (∀ X, Reads .u8 X u l → Calls Try.prog 45 #[u] X (RunP X ((runF l).getD []))) := fun X hX => runOf_any u l X hX (HBY.out l (List.mem_of_getElem? hl)).1 (HBY.out l (List.mem_of_getElem? hl)).2
                have HP : Hid (Reads .u8 wr u l) := hpr
                obtain ⟨xa, xc, rfl, _⟩ := id hpr
                have p0 : (0 : Int) ≤ (j : Int) := by omega
                have p1 : (j : Int) < (rs.length : Int) := by omega
                clear hl hv hpr
                cases hrf : runF l with
                | none =>
                  have HE : Hid (∀ w', Below w.heap.size w w' → P (.returned (.tuple #[.slice none 0 0, .bool false])) w') := HNo.out (OQ.out.trans (TO.out.bad HK.out hrf))
                  rw [hrf] at HU
                  clear hrf
                  generalize (lo ++ f.flatten).length = tl at *
                  go_wp2_with fail
                  refine (HU.out _ HP.out).mono ?_
                  rintro e w2 ⟨v2, rfl, ho2, hb2⟩
                  have HX : Hid (P (.returned (.tuple #[.slice none 0 0, .bool false])) w2) := HE.out _ ((B0.out.trans (HB1.out.mono (by omega))).trans (hb2.mono (by omega)))
                  obtain ⟨ya, yc, rfl⟩ := (MlR.ownd (show w2.ownsRow wr.heap.size 27 2 v2 ([] : List Ml).length (([] : List Ml).flatMap encM) from ho2)).shape
                  clear hb2 ho2
                  go_wp2_with fail
                  exact HX.out
                | some x =>
                  obtain ⟨hx1, hx2, _, _⟩ := runF_inv hrf
                  rw [hrf] at HU
                  have hx0 : ((x.length : Int) == 0) = false := by
                    rw [beq_eq_false_iff_ne]
                    omega
                  by_cases hx : sumM f + x.length ≤ R
                  · have TO2 : Hid (UpTo R rs (j + 1) (f ++ [x])) := TO.out.step HK.out hrf hx
                    have HF : Hid (lo ++ (f ++ [x]).flatten = lo ++ f.flatten ++ x) := by show _ = _; simp
                    have htx : (lo ++ f.flatten).length + x.length ≤ 5000 := by omega
                    clear hrf hx TO hfl hfl2 hsum
                    generalize lo ++ f.flatten = t at *
                    obtain ⟨tx, htw, ht5⟩ : ∃ tx : Int, IntKind.i64.wrap ((t.length : Int) + (x.length : Int)) = tx ∧ ¬ 5000 < tx := ⟨_, rfl, by rw [IntKind.wrap_i64]; omega⟩
                    go_wp2_with fail
                    refine (HU.out _ HP.out).mono ?_
                    rintro e w2 ⟨v2, rfl, ho2, hb2⟩
                    have OX : Hid (w2.ownsRow wr.heap.size 27 2 v2 x.length (x.flatMap encM)) := ho2
                    have O2 : Hid (w2.ownsRow W0.heap.size 27 2 (.slice va t.length vc) t.length (t.flatMap encM)) := own_below OA.out hb2 (Nat.le_refl _)
                    have B2 : Hid (Below W0.heap.size W0 w2) := HB1.out.trans (hb2.mono hsr1)
                    have AP : Hid (AptM v2 (.slice va t.length vc)) := fun g g1 g2 => by
                      have k1 := (own_geM ho2 g1).1
                      have k2 := (own_geM OA.out g2).2
                      omega
                    obtain ⟨ya, yc, rfl⟩ := (MlR.ownd OX.out).shape
                    obtain ⟨WB, OB⟩ : ∃ WB : Nat, Hid (w2.ownsRow WB 27 2 (.slice ya x.length yc) x.length (x.flatMap encM)) := ⟨_, OX⟩
                    clear ho2 hb2 OA HB1 r0 r1 r2 OX
                    go_wp2_with fail
                    go_loopw [4, 8] (fun y i ws => ∃ (i2 : Nat), i2 ≤ x.length ∧ i = .int .i64 i2 ∧ ws.ownsRow W0.heap.size 27 2 y (t ++ x.take i2).length ((t ++ x.take i2).flatMap encM) ∧ ws.ownsRow WB 27 2 (.slice ya x.length yc) x.length (x.flatMap encM) ∧ AptM (.slice ya x.length yc) y ∧ Below W0.heap.size W0 ws) (fun _ i _ => x.length - (intOf i).toNat)
                    case atStart => exact ⟨0, by omega, rfl, by simpa using O2.out, OB.out, AP.out, B2.out⟩
                    case round =>
                      obtain ⟨m, hm, rfl, hown, hox, hap, hbel⟩ := hrel
                      have O3 : Hid (wr.ownsRow W0.heap.size 27 2 u4 (t ++ x.take m).length ((t ++ x.take m).flatMap encM)) := hown
                      have OX3 : Hid (wr.ownsRow WB 27 2 (.slice ya x.length yc) x.length (x.flatMap encM)) := hox
                      have AP3 : Hid (AptM (.slice ya x.length yc) u4) := hap
                      have B3 : Hid (Below W0.heap.size W0 wr) := hbel
                      have hs3 := hbel.size
                      obtain ⟨za, zc, rfl⟩ := (MlR.ownd hown).shape
                      clear hown hbel hap hox OB O2 B2 AP
                      by_cases hlt3 : m < x.length
                      · obtain ⟨b2, off2, cap3, e1, _, _, lt2, hv⟩ := MlR.at (MlR.ownd OX3.out) (by omega)
                        injection e1 with e1 e9 e8
                        subst e1 e8
                        clear e9
                        obtain ⟨z, hz⟩ := getX hlt3
                        obtain ⟨c1, c2⟩ := hv m z hz
                        have HT : Hid (t ++ x.take (m + 1) = (t ++ x.take m) ++ [z]) := by show _ = _; rw [take_snoc hz, List.append_assoc]
                        have hlk : (t ++ x.take m).length ≤ 5000 := by simp; omega
                        have p2 : (0 : Int) ≤ (m : Int) := by omega
                        have p3 : (m : Int) < (x.length : Int) := by omega
                        clear hv hz
                        generalize t ++ x.take m = tm at *
                        go_wp2_with (at_builtin; refine wpList_append_atK kM rfl _ _ rfl W0.heap.size _ tm rfl (O3.out.alloc _) wr.heap.size z rfl #[.int .i64 z.1, .int .i64 z.2] rfl (0, 0) (heap_alloc_new _ _) (by simp [kM]; omega) (by unfold maxLen; omega) (by simp; omega) ?_)
                        intro g gc w4 hown4 hb4 hg4 hl4
                        have O4 : Hid (w4.ownsRow W0.heap.size 27 2 (.slice (some ⟨g, 0, none⟩) (tm.length + 1) gc) (t ++ x.take (m + 1)).length ((t ++ x.take (m + 1)).flatMap encM)) := by show World.ownsRow _ _ _ _ _ _ _; rw [HT.out]; simpa [kM] using hown4
                        have B4 : Hid (Below W0.heap.size W0 w4) := (B3.out.alloc hs3 _).trans hb4
                        have OX4 : Hid (w4.ownsRow WB 27 2 (.slice (some ⟨b2, off2, none⟩) x.length yc) x.length (x.flatMap encM)) := (OX3.out.alloc _).kept hg4 AP3.out.or
                        have AP4 : Hid (AptM (.slice (some ⟨b2, off2, none⟩) x.length yc) (.slice (some ⟨g, 0, none⟩) (tm.length + 1) gc)) := fun q k1 k2 => by
                          injection k2 with k2
                          rcases hl4 with h4 | h4
                          · exact AP3.out q k1 (by rw [h4, ← k2])
                          · have := (own_geM OX3.out k1).2
                            have h5 : wr.heap.size ≤ g := by rw [h4]; simp
                            have h6 : g = q := k2
                            omega
                        clear hown4 hb4 hg4 hl4
                        go_wp2_with fail
                        go_roundw
                        case rel => exact ⟨m + 1, by omega, by go_num, O4.out, OX4.out, AP4.out, B4.out⟩
                        case measure => simp [intOf]; omega
                      · have ek : x.take m = x := List.take_of_length_le (by omega)
                        have O4 : Hid (wr.ownsRow W0.heap.size 27 2 (.slice za (t ++ x.take m).length zc) (lo ++ (f ++ [x]).flatten).length ((lo ++ (f ++ [x]).flatten).flatMap encM)) := by
                          show World.ownsRow _ _ _ _ _ _ _
                          have h := O3.out
                          rw [HF.out]
                          rw [ek] at h ⊢
                          exact h
                        clear ek O3
                        generalize (t ++ x.take m).length = tl at *
                        go_wp2_with fail
                        go_roundw
                        case rel => exact ⟨j + 1, f ++ [x], by omega, by go_num, TO2.out, O4.out, B3.out⟩
                        case measure => simp [intOf]; omega
                  · have HE : Hid (∀ w', Below w.heap.size w w' → P (.returned (.tuple #[.slice none 0 0, .bool false])) w') := HNo.out (OQ.out.trans (TO.out.much HK.out hrf (by omega)))
                    have htx : 5000 < (lo ++ f.flatten).length + x.length := by omega
                    have hty : (lo ++ f.flatten).length + x.length ≤ 7000 := by omega
                    clear hrf hx TO hfl hfl2 hsum OA
                    generalize (lo ++ f.flatten).length = tl at *
                    obtain ⟨tx, htw, ht5⟩ : ∃ tx : Int, IntKind.i64.wrap ((tl : Int) + (x.length : Int)) = tx ∧ 5000 < tx := ⟨_, rfl, by rw [IntKind.wrap_i64]; omega⟩
                    go_wp2_with fail
                    refine (HU.out _ HP.out).mono ?_
                    rintro e w2 ⟨v2, rfl, ho2, hb2⟩
                    have HX : Hid (P (.returned (.tuple #[.slice none 0 0, .bool false])) w2) := HE.out _ ((B0.out.trans (HB1.out.mono (by omega))).trans (hb2.mono (by omega)))
                    obtain ⟨ya, yc, rfl⟩ := (MlR.ownd (show w2.ownsRow wr.heap.size 27 2 v2 x.length (x.flatMap encM) from ho2)).shape
                    clear hb2 ho2
                    go_wp2_with fail
                    exact HX.out
              · have HX : Hid (P (.returned (.tuple #[.slice va (lo ++ f.flatten).length vc, .bool true])) wr) := HYes.out f (OQ.out.trans (TO.out.done (by omega))) _ _ (own_lower OA.out (by omega)) (B0.out.trans (HB1.out.mono (by omega)))
                clear TO OA hfl hfl2
                generalize (lo ++ f.flatten).length = tl at *
                go_wp2_with fail
                exact HX.out
      · have HE : Hid (∀ w', Below w.heap.size w w' → QdP w lo (quF n lo rs) (.returned (.tuple #[.slice none 0 0, .bool false])) w') := HNo.out (quF_runs h3)
        generalize QdP w lo (quF n lo rs) = P at *
        have hin := in_yes h0
        rw [hin] at HI
        have e2 : ¬ n ≤ (lo.length : Int) := by omega
        have e3 : (5000 : Int) < (rs.length : Int) := by omega
        clear hin HNo HYes
        go_enter Try.func30, Try.ntmps30
        go_wp2_with fail
        refine (HI.out _).mono ?_
        rintro e w1 ⟨rfl, rfl⟩
        go_wp2_with fail
        exact HE.out _ (hb _)
    · have HE : Hid (∀ w', Below w.heap.size w w' → QdP w lo (quF n lo rs) (.returned (.tuple #[.slice none 0 0, .bool false])) w') := HNo.out (quF_loose h2)
      generalize QdP w lo (quF n lo rs) = P at *
      have hin := in_yes h0
      rw [hin] at HI
      have e2 : n ≤ (lo.length : Int) := by omega
      clear hin HNo HYes
      go_enter Try.func30, Try.ntmps30
      go_wp2_with fail
      refine (HI.out _).mono ?_
      rintro e w1 ⟨rfl, rfl⟩
      go_wp2_with fail
      exact HE.out _ (hb _)
  · have HE : Hid (∀ w', Below w.heap.size w w' → QdP w lo (quF n lo rs) (.returned (.tuple #[.slice none 0 0, .bool false])) w') := HNo.out (quF_budget h0)
    generalize QdP w lo (quF n lo rs) = P at *
    have hin := in_no h0
    rw [hin] at HI
    clear hin HNo HYes
    go_enter Try.func30, Try.ntmps30
    go_wp2_with fail
    refine (HI.out _).mono ?_
    rintro e w1 ⟨rfl, rfl⟩
    go_wp2_with fail
    exact HE.out _ (hb _)
end Go.Proofs.Ytihghhmhgakkaaa
