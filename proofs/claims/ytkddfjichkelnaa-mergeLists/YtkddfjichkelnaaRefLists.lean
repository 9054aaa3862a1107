/-
  Contract of the document's own MailMerged.
-/
import Derived.Test.YtkddfjichkelnaaRefMerge
namespace Go.Proofs.Ytkddfjichkelnaa
set_option maxRecDepth 100000
open Go.ChangeShapes Go.WideShapes Go.ChangeAt Go.RowKit

theorem flat_take {f : List (List Ml)} {k : Nat} {l : List Ml} (h : f[k]? = some l) : (f.take (k + 1)).flatten = (f.take k).flatten ++ l := by rw [take_snoc h]; simp
theorem flat_sum (f : List (List Ml)) (k : Nat) : (f.take k).flatten.length ≤ sumM f := by rw [sumM_flat]; exact sumM_le f k

set_option maxHeartbeats 2000000 in
set_option maxRecDepth 100000 in
theorem refMany (v : Value) (f : List (List Ml)) (w : World) (h : LmR w v f) (hn : f.length > 5000) : Calls Try.prog 15 #[v] w (RefP w 1 (sortM f.flatten)) := by
  have HR : Hid (LmR w v f) := h
  obtain ⟨a, cap, rfl, hc, hm, _⟩ := h
  unfold maxLen at hm
  have HE : Hid (RefP w 1 (sortM f.flatten) (.returned (.tuple #[.slice none 0 0, .int .i64 1])) w) := RefP.no (by decide) (Below.refl _ _)
  generalize RefP w 1 (sortM f.flatten) = P at *
  go_enter Try.func15, Try.ntmps15
  go_wp2_with fail
  go_loopw [4, 5] (fun s i wr => ∃ (k : Nat) (c : Int), k ≤ f.length ∧ i = .int .i64 k ∧ s = .int .i64 c ∧ wr = w) (fun _ i _ => f.length - (intOf i).toNat)
  case atStart => exact ⟨0, 0, by omega, rfl, rfl, rfl⟩
  case round =>
    obtain ⟨k, c, hk, rfl, rfl, hw⟩ := hrel
    subst wr
    by_cases hlt : k < f.length
    · obtain ⟨b, off, cap', e1, lt, _, _, hv⟩ := HR.out.at (by omega)
      injection e1 with e1 _ e3
      subst e1 e3
      obtain ⟨l, hl⟩ := getX hlt
      obtain ⟨u, hu, hpr⟩ := hv k l hl
      obtain ⟨ua, uc, rfl⟩ := hpr.shape
      clear hl hv hpr
      go_wp2_with fail
      go_roundw
      case rel => exact ⟨k + 1, _, by omega, by go_num, rfl, trivial⟩
      case measure => simp [intOf]; omega
    · by_cases hc5 : c > 5000
      · go_wp2_with fail
        exact HE.out
      · have z1 : (f.length : Int) > 5000 := by omega
        go_wp2_with fail
        exact HE.out

set_option maxHeartbeats 4000000 in
set_option maxRecDepth 100000 in
theorem refLists_any (v : Value) (f : List (List Ml)) (w : World) (h : LmR w v f) (hb : ∀ l ∈ f, l.length ≤ 8796093022208) : Calls Try.prog 15 #[v] w (RefP w (errM f) (sortM f.flatten)) := by
  by_cases hn : f.length > 5000
  · rw [show errM f = 1 from if_pos (.inl hn)]
    exact refMany v f w h hn
  have HR : Hid (LmR w v f) := h
  have hsb : sumM f ≤ 4611686018427387904 := by
    have := sumM_bound f hb
    have h2 : f.length * 8796093022208 ≤ 5000 * 8796093022208 := Nat.mul_le_mul_right _ (by omega)
    omega
  obtain ⟨a, cap, rfl, hc, hm, _⟩ := h
  unfold maxLen at hm
  have HE1 : Hid (sumM f > 5000 → ∀ w', Below w.heap.size w w' → RefP w (errM f) (sortM f.flatten) (.returned (.tuple #[.slice none 0 0, .int .i64 1])) w') := fun hs w' h1 => by
    rw [show errM f = 1 from if_pos (.inr hs)]; exact RefP.no (by decide) h1
  have hel : ¬ sumM f > 5000 → errM f = if allB f then 0 else 3 := fun hs => if_neg (by rintro (h | h) <;> omega)
  have HE0 : Hid (¬ sumM f > 5000 → allB f = true → ∀ v' w', w'.ownsRow w.heap.size 40 2 v' (sortM f.flatten).length ((sortM f.flatten).flatMap encM) → Below w.heap.size w w' → RefP w (errM f) (sortM f.flatten) (.returned (.tuple #[v', .int .i64 0])) w') := fun hs ha v' w' h1 h2 => by
    rw [hel hs, ha, if_pos rfl]; exact RefP.yes h1 h2
  have HE3 : Hid (¬ sumM f > 5000 → allB f = false → ∀ w', Below w.heap.size w w' → RefP w (errM f) (sortM f.flatten) (.returned (.tuple #[.slice none 0 0, .int .i64 3])) w') := fun hs ha w' h1 => by
    rw [hel hs, ha, if_neg (by decide)]; exact RefP.no (by decide) h1
  clear hel hb
  generalize RefP w (errM f) (sortM f.flatten) = P at *
  go_enter Try.func15, Try.ntmps15
  go_wp2_with fail
  go_loopw [4, 5] (fun s i wr => ∃ k : Nat, k ≤ f.length ∧ i = .int .i64 k ∧ s = .int .i64 (sumM (f.take k) : Nat) ∧ wr = w) (fun _ i _ => f.length - (intOf i).toNat)
  case atStart => exact ⟨0, by omega, rfl, rfl, rfl⟩
  case round =>
    obtain ⟨k, hk, rfl, rfl, hw⟩ := hrel
    subst wr
    by_cases hlt : k < f.length
    · obtain ⟨b, off, cap', e1, lt, _, _, hv⟩ := HR.out.at (by omega)
      injection e1 with e1 _ e3
      subst e1 e3
      obtain ⟨l, hl⟩ := getX hlt
      obtain ⟨u, hu, hpr⟩ := hv k l hl
      obtain ⟨ua, uc, rfl⟩ := hpr.shape
      have HT : Hid (sumM (f.take (k + 1)) = sumM (f.take k) + l.length) := sumM_take hl
      have hs1 := sumM_le f (k + 1)
      have hs2 := HT.out
      have hs3 : sumM (f.take k) + l.length ≤ 4611686018427387904 := by omega
      clear hs1 hs2 hl hv hpr
      generalize sumM (f.take k) = s at *
      go_wp2_with fail
      go_roundw
      case rel => exact ⟨k + 1, by omega, by go_num, by rw [HT.out]; go_num, trivial⟩
      case measure => simp [intOf]; omega
    · have ek : f.take k = f := List.take_of_length_le (by omega)
      rw [ek]
      have HFL : Hid (¬ sumM f > 5000 → ∀ j, (f.take j).flatten.length ≤ 5000) := fun h j => by have := flat_sum f j; omega
      clear ek
      by_cases hs : sumM f > 5000
      · have HX : Hid _ := HE1.out hs w (Below.refl _ _)
        have z1 : ((sumM f : Nat) : Int) > 5000 := by omega
        generalize sumM f = sm at *
        go_wp2_with fail
        exact HX.out
      · have z1 : ¬ ((sumM f : Nat) : Int) > 5000 := by omega
        have z2 : ¬ (f.length : Int) > 5000 := by omega
        have HG0 : Hid _ := HE0.out hs
        have HG3 : Hid _ := HE3.out hs
        have HGL : Hid _ := HFL.out hs
        clear hs HE1 HE0 HE3 HFL
        generalize sumM f = sm at *
        go_wp2_with fail
        go_loopw [6, 7] (fun u i wq => ∃ k : Nat, k ≤ f.length ∧ i = .int .i64 k ∧ (∀ l ∈ f.take k, srtMb l = true) ∧ wq.ownsRow w.heap.size 40 2 u (f.take k).flatten.length ((f.take k).flatten.flatMap encM) ∧ Below w.heap.size w wq) (fun _ i _ => f.length - (intOf i).toNat)
        case atStart => exact ⟨0, by omega, rfl, fun l hl => by simp at hl, World.ownsRow_nil _ _ _ _, Below.refl _ _⟩
        case round =>
          obtain ⟨k, hk, rfl, hal, hown, hbel⟩ := hrel
          have HA : Hid (∀ l ∈ f.take k, srtMb l = true) := hal
          have OW : Hid (wr.ownsRow w.heap.size 40 2 u6 (f.take k).flatten.length ((f.take k).flatten.flatMap encM)) := hown
          have HB : Hid (Below w.heap.size w wr) := hbel
          have hsr := hbel.size
          clear hal hown hbel
          by_cases hlt : k < f.length
          · obtain ⟨b, off, cap', e1, lt, _, _, hv⟩ := (HR.out.below HB.out (Nat.le_refl _)).at (by omega)
            injection e1 with e1 _ e3
            subst e1 e3
            obtain ⟨l, hl⟩ := getX hlt
            obtain ⟨u', hu', hpr'⟩ := hv k l hl
            obtain ⟨b', off', cap'', e2, lt', _, _, hv'⟩ := HR.out.at (by omega)
            injection e2 with e2 _ e4
            injection e2 with e2
            injection e2 with e2 e2'
            subst e2 e2' e4
            obtain ⟨u, hu0, hpr0⟩ := hv' k l hl
            have hu := (HB.out.cell (p := ⟨b, off + k, none⟩) (by exact lt')).trans hu0
            have hpr := hpr0.below HB.out (Nat.le_refl _)
            have HP0 : Hid (MlR w u l) := hpr0
            have HU0 : Hid (w.cell? ⟨b, off + k, none⟩ = some u) := hu0
            have HP : Hid (MlR wr u l) := hpr
            have HT : Hid (f.take (k + 1) = f.take k ++ [l]) := take_snoc hl
            have HTF : Hid ((f.take (k + 1)).flatten = (f.take k).flatten ++ l) := flat_take hl
            have HLE : Hid ((f.take k).flatten.length + l.length ≤ 5000) := by
              have := HGL.out (k + 1)
              rw [HTF.out, List.length_append] at this
              exact this
            have HML : Hid (l ∈ f) := List.mem_of_getElem? hl
            obtain ⟨ua, uc, rfl⟩ := hpr.shape
            have HC : Hid (∀ X, MlR X (.slice ua l.length uc) l → Calls Try.prog 30 #[.slice ua l.length uc] X fun e w' => e = .returned (.bool (srtMb l)) ∧ Below X.heap.size X w') := fun X hX => isOrdered_any _ l X hX
            have HNO : Hid (srtMb l = false → ∀ w', Below w.heap.size w w' → P (.returned (.tuple #[.slice none 0 0, .int .i64 3])) w') := fun h => HG3.out (allB_no HML.out h)
            have HYE : Hid (srtMb l = true → ∀ x ∈ f.take (k + 1), srtMb x = true) := fun h x hx => by
              rw [HT.out] at hx
              rcases List.mem_append.1 hx with hx | hx
              · exact HA.out x hx
              · simp at hx; subst hx; exact h
            clear hv hl hpr hv' hu0 hpr0 hu' hpr'
            go_wp2_with fail
            refine (HC.out _ HP.out).mono ?_
            rintro e w2 ⟨rfl, hb2⟩
            have HB2 : Hid (Below w.heap.size w w2) := HB.out.trans (hb2.mono hsr)
            have O2 : Hid (w2.ownsRow w.heap.size 40 2 u6 (f.take k).flatten.length ((f.take k).flatten.flatMap encM)) := own_below OW.out hb2 (Nat.le_refl _)
            have hul : l.length ≤ uc ∧ uc ≤ maxLen := by
              obtain ⟨_, _, e, h1, h2, _⟩ := HP.out
              injection e with _ _ e
              rw [e]; exact ⟨h1, h2⟩
            unfold maxLen at hul
            clear hb2 HC hu HP OW HB
            cases hso : srtMb l with
            | false =>
              have HX : Hid (P (.returned (.tuple #[.slice none 0 0, .int .i64 3])) w2) := HNO.out hso w2 HB2.out
              clear hso
              go_wp2_with fail
              exact HX.out
            | true =>
              have HX : Hid _ := HYE.out hso
              clear hso HYE HNO
              generalize hT : (f.take k).flatten = T at *
              have HT0 : Hid ((f.take k).flatten = T) := hT
              clear hT
              go_wp2_with fail
              go_loopw [6, 8] (fun u i wq => ∃ j : Nat, j ≤ l.length ∧ i = .int .i64 j ∧ wq.ownsRow w.heap.size 40 2 u (T ++ l.take j).length ((T ++ l.take j).flatMap encM) ∧ Below w.heap.size w wq) (fun _ i _ => l.length - (intOf i).toNat)
              case atStart => exact ⟨0, by omega, rfl, by simpa using O2.out, HB2.out⟩
              case round =>
                obtain ⟨j, hj, rfl, hown3, hbel3⟩ := hrel
                have O3 : Hid (wr.ownsRow w.heap.size 40 2 u6 (T ++ l.take j).length ((T ++ l.take j).flatMap encM)) := hown3
                have HB3 : Hid (Below w.heap.size w wr) := hbel3
                have HP3 : Hid (MlR wr (.slice ua l.length uc) l) := HP0.out.below hbel3 (Nat.le_refl _)
                have hs3 := hbel3.size
                have hc3 : wr.cell? ⟨b, off + k, none⟩ = some (.slice ua l.length uc) := (hbel3.cell (p := ⟨b, off + k, none⟩) (by exact lt')).trans HU0.out
                clear hown3 hbel3
                by_cases hjl : j < l.length
                · obtain ⟨b3, off3, cap3, e3, _, _, lt3, hv3⟩ := MlR.at HP3.out (by omega)
                  injection e3 with e3 _ e4
                  subst e3 e4
                  obtain ⟨x, hx⟩ := getX hjl
                  obtain ⟨c1, c2⟩ := hv3 j x hx
                  have HTJ : Hid (T ++ l.take (j + 1) = (T ++ l.take j) ++ [x]) := by show _ = _; rw [take_snoc hx, List.append_assoc]
                  have hlen : (T ++ l.take j).length ≤ 5000 := by
                    have := HLE.out
                    rw [List.length_append, List.length_take]
                    omega
                  have p0 : (0 : Int) ≤ (j : Int) := by omega
                  have p1 : (j : Int) < (l.length : Int) := by omega
                  have p2 : (0 : Int) ≤ (k : Int) := by omega
                  have p3 : (k : Int) < (f.length : Int) := by omega
                  clear hv3 hx
                  generalize T ++ l.take j = T2 at *
                  go_wp2_with (at_builtin; refine wpList_append_newK kM rfl _ _ rfl w.heap.size _ T2 rfl (O3.out.alloc _) wr.heap.size x rfl #[.int .i64 x.1, .int .i64 x.2] rfl (0, 0) (heap_alloc_new _ _) (by simp [kM]; omega) (by unfold maxLen; omega) (by simp; omega) ?_)
                  intro g c w4 hown4 hb4 hg4
                  have O4 : Hid (w4.ownsRow w.heap.size 40 2 (.slice (some ⟨g, 0, none⟩) (T2.length + 1) c) (T ++ l.take (j + 1)).length ((T ++ l.take (j + 1)).flatMap encM)) := by
                    show World.ownsRow _ _ _ _ _ _ _
                    rw [HTJ.out, flat_snoc, List.length_append]; exact hown4
                  have HB4 : Hid (Below w.heap.size w w4) := (HB3.out.alloc hs3 _).trans hb4
                  clear hown4 hb4 hg4 c1 c2
                  go_wp2_with fail
                  go_roundw
                  case rel => exact ⟨j + 1, by omega, by go_num, O4.out, HB4.out⟩
                  case measure => simp [intOf]; omega
                · have ej : l.take j = l := List.take_of_length_le (by omega)
                  have O4 : Hid (wr.ownsRow w.heap.size 40 2 u6 (f.take (k + 1)).flatten.length ((f.take (k + 1)).flatten.flatMap encM)) := by
                    show World.ownsRow _ _ _ _ _ _ _
                    rw [HTF.out, ← ej]; exact O3.out
                  clear ej
                  have p2 : (0 : Int) ≤ (k : Int) := by omega
                  have p3 : (k : Int) < (f.length : Int) := by omega
                  go_wp2_with fail
                  go_roundw
                  case rel => exact ⟨k + 1, by omega, by go_num, HX.out, O4.out, HB3.out⟩
                  case measure => simp [intOf]; omega
          · have ek : f.take k = f := List.take_of_length_le (by omega)
            have HAL : Hid (allB f = true) := (allB_iff f).2 (by have := HA.out; rwa [ek] at this)
            have O2 : Hid (wr.ownsRow w.heap.size 40 2 u6 f.flatten.length (f.flatten.flatMap encM)) := by have := OW.out; rwa [ek] at this
            have hfl : f.flatten.length ≤ 5000 := by have := HGL.out k; rwa [ek] at this
            have HG9 : Hid _ := HG0.out HAL.out
            clear ek OW HGL HG0 HG3
            generalize f.flatten = F at *
            have RD : Hid (MlR wr u6 F) := MlR.ownd O2.out
            obtain ⟨ua, uc, rfl⟩ := RD.out.shape
            have HRM : Hid (∀ X, MlR X (.slice ua F.length uc) F → Calls Try.prog 26 #[.slice ua F.length uc] X fun e w' => ∃ v', e = .returned v' ∧ w'.ownsRow X.heap.size 40 2 v' (sortM F).length ((sortM F).flatMap encM) ∧ Below X.heap.size X w') := fun X hX => refMails_any _ F X hX hfl
            go_wp2_with fail
            refine (HRM.out _ RD.out).mono ?_
            rintro e w2 ⟨v2, rfl, ho2, hb2⟩
            have HX : Hid (P (.returned (.tuple #[v2, .int .i64 0])) w2) := HG9.out v2 w2 (own_lower ho2 hsr) (HB.out.trans (hb2.mono hsr))
            obtain ⟨va, vn, vc, rfl⟩ : ∃ a n c, v2 = .slice a n c := by obtain ⟨a, c, e, _⟩ := MlR.ownd ho2; exact ⟨_, _, _, e⟩
            clear ho2 hb2
            go_wp2_with fail
            exact HX.out
end Go.Proofs.Ytkddfjichkelnaa
