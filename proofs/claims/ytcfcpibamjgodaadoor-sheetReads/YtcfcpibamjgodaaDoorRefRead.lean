/-
  Contract of the document's own GraphRead.
-/
import Derived.Test.YtcfcpibamjgodaaDoorNumberWalk
import Derived.Test.YtcfcpibamjgodaaDoorRefReadMath
import Derived.Test.YtcfcpibamjgodaaDoorFaultWalk
import Derived.Test.YtcfcpibamjgodaaDoorReadWalk
namespace Go.Proofs.YtcfcpibamjgodaaDoor
set_option maxRecDepth 100000
open Go.ChangeShapes Go.WideShapes Go.ChangeAt Go.RowKit

/-- P5.2. -/
def RdP (L : List UInt8) (n : Int) (es : List Ed) (f : Int) : Prop :=
  (20000 < L.length ∧ n = 0 ∧ es = [] ∧ f = 1) ∨ (L.length ≤ 20000 ∧ ((f = 0 ∧ faultE n es = 0 ∧ showL n es = L) ∨ (f = 3 ∧ n = 0 ∧ es = [] ∧ NoG L)))
/-- The program's Read answers so, and nothing else does. -/
theorem rd_uniq {L : List UInt8} {n : Int} {es : List Ed} {f : Int} (h : RdP L n es f) : rdF L = ((n, es), f) := by
  rcases h with ⟨h1, rfl, rfl, rfl⟩ | ⟨h1, ⟨rfl, h2, h3⟩ | ⟨rfl, rfl, rfl, h2⟩⟩
  · rw [rdF, if_pos h1]
  · have hg : guessF L = (n, es) := by rw [← h3]; exact guess_show n es h2
    rw [rdF, if_neg (by omega), hg, if_pos ⟨h2, h3⟩]
  · rw [rdF, if_neg (by omega), if_neg (fun h => h2 _ _ h.1 h.2)]

theorem number_lf (s : ByteArray) (i0 : Nat) (hs : s.size ≤ 20000) (hi : i0 ≤ s.size) (w : World) :
    Calls Tryd.prog 23 #[.string s, .int .i64 (i0 : Int), .int .u8 10] w fun r w' => ∃ n j, r = .returned (.tuple #[.int .i64 n, .int .i64 j]) ∧ NumP s.data.toList i0 10 n j ∧ w' = w := number_any s i0 10 (by decide) hs hi w
theorem number_sp (s : ByteArray) (i0 : Nat) (hs : s.size ≤ 20000) (hi : i0 ≤ s.size) (w : World) :
    Calls Tryd.prog 23 #[.string s, .int .i64 (i0 : Int), .int .u8 32] w fun r w' => ∃ n j, r = .returned (.tuple #[.int .i64 n, .int .i64 j]) ∧ NumP s.data.toList i0 32 n j ∧ w' = w := number_any s i0 32 (by decide) hs hi w
theorem number_0 (s : ByteArray) (hs : s.size ≤ 20000) (w : World) :
    Calls Tryd.prog 23 #[.string s, .int .i64 0, .int .u8 10] w fun r w' => ∃ n j, r = .returned (.tuple #[.int .i64 n, .int .i64 j]) ∧ NumP s.data.toList 0 10 n j ∧ w' = w := number_any s 0 10 (by decide) hs (Nat.zero_le _) w

/-- For the loop's measure. -/
def atM (n : Nat) : Value → Nat
  | .int _ x => if x < 0 then 0 else n + 1 - x.toNat
  | _ => 0
/-- What the loop keeps. -/
def InR (w : World) (L : List UInt8) (N : Int) (at_ : Int) (wr : World) : Prop :=
  ∃ (es : List Ed) (a : Option Addr) (n c : Nat), wr.heap[w.heap.size + 1]? = some (.cells #[.int .i64 N, .slice a n c] 24 (0, 0)) ∧ wr.ownsRow (w.heap.size + 2) 48 3 (.slice a n c) es.length (es.flatMap encE) ∧
    wr.heap[w.heap.size]? = some (.cells #[.int .i64 0, .slice none 0 0] 24 (0, 0)) ∧ Below w.heap.size w wr ∧ w.heap.size + 2 ≤ wr.heap.size ∧
    ((at_ = -1 ∧ NoG L) ∨ ∃ k : Nat, at_ = k ∧ k ≤ L.length ∧ es.length ≤ k ∧ Snd L N es (L.drop k) ∧ Cmp L N es (L.drop k))

set_option maxHeartbeats 4000000 in
theorem graphRead_any (s : ByteArray) (w : World) :
    Calls Tryd.prog 12 #[.string s] w fun e w' => ∃ n es v f, e = .returned (.tuple #[.agg #[.int .i64 n, v], .int .i64 f]) ∧ RdP s.data.toList n es f ∧
      w'.ownsRow w.heap.size 48 3 v es.length (es.flatMap encE) ∧ Below w.heap.size w w' := by
  have HL : Hid (s.data.toList.length = s.size) := Array.length_toList
  by_cases hbig : 20000 < s.size
  · have HR : Hid (RdP s.data.toList 0 [] 1) := .inl ⟨by have := HL.out; omega, rfl, rfl, rfl⟩
    have h1 : (20000 : Int) < (s.size : Int) := by omega
    go_enter Tryd.func12, Tryd.ntmps12
    go_wp2_with fail
    refine bodyPost_ret (v := .tuple #[.agg #[.int .i64 0, .slice none 0 0], .int .i64 1]) (by simp [results, Tryd.results12, go_sem]) rfl ⟨_, _, _, _, rfl, HR.out, World.ownsRow_nil _ _ _ _, ?_⟩
    exact below_alloc w _
  · have h1 : ¬ (20000 : Int) < (s.size : Int) := by omega
    have HLF : Hid (∀ i0, i0 ≤ s.size → ∀ X, Calls Tryd.prog 23 #[.string s, .int .i64 ((i0 : Nat) : Int), .int .u8 10] X fun r w' => ∃ n j, r = .returned (.tuple #[.int .i64 n, .int .i64 j]) ∧ NumP s.data.toList i0 10 n j ∧ w' = X) := fun i0 hi X => number_lf s i0 (by omega) hi X
    have HSP : Hid (∀ i0, i0 ≤ s.size → ∀ X, Calls Tryd.prog 23 #[.string s, .int .i64 ((i0 : Nat) : Int), .int .u8 32] X fun r w' => ∃ n j, r = .returned (.tuple #[.int .i64 n, .int .i64 j]) ∧ NumP s.data.toList i0 32 n j ∧ w' = X) := fun i0 hi X => number_sp s i0 (by omega) hi X
    have HN0 : Hid (∀ X, Calls Tryd.prog 23 #[.string s, .int .i64 0, .int .u8 10] X fun r w' => ∃ n j, r = .returned (.tuple #[.int .i64 n, .int .i64 j]) ∧ NumP s.data.toList 0 10 n j ∧ w' = X) := fun X => number_0 s (by omega) X
    have HRP : Hid (∀ n es f, ((f = 0 ∧ faultE n es = 0 ∧ showL n es = s.data.toList) ∨ (f = 3 ∧ n = 0 ∧ es = [] ∧ NoG s.data.toList)) → RdP s.data.toList n es f) := fun n es f h => .inr ⟨by have := HL.out; omega, h⟩
    generalize s.data.toList = L at HL HLF HSP HN0 HRP ⊢
    go_enter Tryd.func12, Tryd.ntmps12
    go_wp2_with fail
    refine (HN0.out _).mono ?_
    rintro e w1 ⟨N, at0, rfl, hP, rfl⟩
    have HI0 : Hid (InR w L N at0 ((w.alloc (.cells #[.int .i64 0, .slice none 0 0] 24)).alloc (.cells #[.int .i64 N, .slice none 0 0] 24))) := by
      refine ⟨[], none, 0, 0, heap_second _ _ _ _, World.ownsRow_nil _ _ _ _, ?_, ?_, ?_, ?_⟩
      · exact (Below.heap_alloc _ _ _ (by simp)).trans (heap_alloc_new _ _)
      · exact ((Below.refl _ w).alloc (Nat.le_refl _) _).alloc (by simp) _
      · simp
      · rcases hP with ⟨m, k, rfl, rfl, hm, hk, hkl, hX⟩ | ⟨rfl, rfl, hX⟩
        · rw [List.drop_zero] at hX
          obtain ⟨h2, h3⟩ := first_yes hX
          exact .inr ⟨k, rfl, hkl, by simp, h2, h3⟩
        · rw [List.drop_zero] at hX
          exact .inl ⟨rfl, first_no hX⟩
    clear hP HN0
    go_wp2_with fail
    go_loopw [6] (fun a wr => ∃ at_ : Int, a = .int .i64 at_ ∧ InR w L N at_ wr) (fun a _ => atM s.size a)
    case atStart => exact ⟨_, rfl, HI0.out⟩
    case round =>
      obtain ⟨at_, rfl, es, ua, un, uc, hg, hown, hr, hbel, hsz, hcase⟩ := hrel
      have Y1 : Hid (wr.heap[w.heap.size + 1]? = some (.cells #[.int .i64 N, .slice ua un uc] 24 (0, 0))) := hg
      have Y0 : Hid (wr.heap[w.heap.size]? = some (.cells #[.int .i64 0, .slice none 0 0] 24 (0, 0))) := hr
      have OW : Hid (wr.ownsRow (w.heap.size + 2) 48 3 (.slice ua un uc) es.length (es.flatMap encE)) := hown
      have HB : Hid (Below w.heap.size w wr) := hbel
      have c0 : wr.cell? ⟨w.heap.size + 1, 0, none⟩ = some (.int .i64 N) := by rw [cell_of hg]; rfl
      have c1 : wr.cell? ⟨w.heap.size + 1, 1, none⟩ = some (.slice ua un uc) := by rw [cell_of hg]; rfl
      have z1 : wr.frozen? ⟨w.heap.size + 1, 1, none⟩ = false := by simp only [World.frozen?, hg]; simp
      have d0 : wr.cell? ⟨w.heap.size, 0, none⟩ = some (.int .i64 0) := by rw [cell_of hr]; rfl
      have d1 : wr.cell? ⟨w.heap.size, 1, none⟩ = some (.slice none 0 0) := by rw [cell_of hr]; rfl
      have f0 : wr.frozen? ⟨w.heap.size, 0, none⟩ = false := by simp only [World.frozen?, hr]; simp
      have f1 : wr.frozen? ⟨w.heap.size, 1, none⟩ = false := by simp only [World.frozen?, hr]; simp
      clear hg hr hown hbel HI0
      rcases hcase with ⟨rfl, hng⟩ | ⟨k, rfl, hkl, hek, hsn, hcm⟩
      · have HNG : Hid (NoG L) := hng
        clear hng
        go_wp2_with fail
        obtain ⟨r0, r1⟩ := putg (n := 0) (u := .slice none 0 0) Y0.out
        refine bodyPost_ret (v := .tuple #[.agg #[.int .i64 0, .slice none 0 0], .int .i64 3]) (by simp [results, Tryd.results12, go_sem, r0, r1]) rfl ⟨_, _, _, _, rfl, HRP.out _ _ _ (.inr ⟨rfl, rfl, rfl, HNG.out⟩), World.ownsRow_nil _ _ _ _, ?_⟩
        exact (HB.out.setCell (p := ⟨w.heap.size, 0, none⟩) (Nat.le_refl _) _).setCell (p := ⟨w.heap.size, 1, none⟩) (Nat.le_refl _) _
      · have HSN : Hid (Snd L N es (L.drop k)) := hsn
        have HCM : Hid (Cmp L N es (L.drop k)) := hcm
        have hks : k ≤ s.size := by have := HL.out; omega
        clear hsn hcm
        have p0 : (0 : Int) ≤ (k : Int) := by omega
        by_cases hlt : k < s.size
        · have p1 : (k : Int) < (s.size : Int) := by omega
          have hR : L.drop k ≠ [] := by
            intro e
            have := congrArg List.length e
            have h2 := HL.out
            simp at this
            omega
          have HR : Hid (L.drop k ≠ []) := hR
          clear hR
          go_wp2_with fail
          refine (HSP.out k hks _).mono ?_
          rintro e w1 ⟨a, i, rfl, hP, hw⟩
          rw [hw]
          clear hw w1
          rcases hP with ⟨a', i', rfl, rfl, ha, hi, hil, hX1⟩ | ⟨rfl, rfl, hX1⟩
          · have HX1 : Hid (L.drop k = Lib.decDigits a' ++ 32 :: L.drop i') := hX1
            have p2 : ¬ (i' : Int) < 0 := by omega
            have his : i' ≤ s.size := by have := HL.out; omega
            clear hX1
            go_wp2_with fail
            refine (HSP.out i' his _).mono ?_
            rintro e w1 ⟨b, j, rfl, hP, hw⟩
            rw [hw]
            clear hw w1
            rcases hP with ⟨b', j', rfl, rfl, hb, hj, hjl, hX2⟩ | ⟨rfl, rfl, hX2⟩
            · have HX2 : Hid (L.drop i' = Lib.decDigits b' ++ 32 :: L.drop j') := hX2
              have p3 : ¬ (j' : Int) < 0 := by omega
              have hjs : j' ≤ s.size := by have := HL.out; omega
              clear hX2
              go_wp2_with fail
              refine (HLF.out j' hjs _).mono ?_
              rintro e w1 ⟨c, k2, rfl, hP, hw⟩
              rw [hw]
              clear hw w1
              have HP3 : Hid (NumP L j' 10 c k2) := hP
              clear hP
              go_wp2_with (at_builtin; refine wpList_append_newK kE rfl _ _ rfl (w.heap.size + 2) _ es rfl (OW.out.alloc _) wr.heap.size ((a' : Int), (b' : Int), c) rfl #[.int .i64 (a' : Int), .int .i64 (b' : Int), .int .i64 c] rfl (0, 0) (heap_alloc_new _ _) (by simp [kE]; omega) (by unfold maxLen; omega) (by simp; omega) ?_)
              intro g gc w3 hown3 hb3 _
              have B3 : Hid (Below (w.heap.size + 2) wr w3) := ((Below.refl _ _).alloc hsz _).trans hb3
              have O3 : Hid (w3.ownsRow (w.heap.size + 2) 48 3 (.slice (some ⟨g, 0, none⟩) (es.length + 1) gc) (es ++ [((a' : Int), (b' : Int), c)]).length ((es ++ [((a' : Int), (b' : Int), c)]).flatMap encE)) := by
                show World.ownsRow _ _ _ _ _ _ _
                simpa [kE] using hown3
              have Y1b : Hid (w3.heap[w.heap.size + 1]? = some (.cells #[.int .i64 N, .slice ua un uc] 24 (0, 0))) := (B3.out.block _ (by omega)).trans Y1.out
              have Y0b : Hid (w3.heap[w.heap.size]? = some (.cells #[.int .i64 0, .slice none 0 0] 24 (0, 0))) := (B3.out.block _ (by omega)).trans Y0.out
              have g1 : w3.cell? ⟨w.heap.size + 1, 1, none⟩ = some (.slice ua un uc) := by rw [cell_of Y1b.out]; rfl
              have g2 : w3.frozen? ⟨w.heap.size + 1, 1, none⟩ = false := by simp only [World.frozen?, Y1b.out]; simp
              have hs3 := B3.out.size
              clear hown3 hb3 c0 c1 z1 d0 d1 f0 f1
              go_wp2_with fail
              have HMS : Hid (∀ k3 : Nat, j' < k3 → k3 ≤ s.size → atM s.size (.int .i64 (k3 : Int)) < atM s.size (.int .i64 (k : Int))) := by
                intro k3 h4 h5
                simp only [atM]
                rw [if_neg (by omega), if_neg (by omega)]
                omega
              go_roundw
              case rel =>
                refine ⟨_, rfl, es ++ [((a' : Int), (b' : Int), c)], _, _, _, set_es Y1b.out, own_setB O3.out (by omega) _, (Below.heap_setCell _ _ _ _ (by simp)).trans Y0b.out, (HB.out.trans (below_low B3.out (by omega))).setCell (p := ⟨w.heap.size + 1, 1, none⟩) (by simp) _, by rw [size_setCell]; omega, ?_⟩
                rcases HP3.out with ⟨c', k3, rfl, rfl, hc, hk3, hk3l, hX3⟩ | ⟨rfl, rfl, hX3⟩
                · obtain ⟨h6, h7⟩ := step_yes HSN.out HCM.out HX1.out HX2.out hX3
                  exact .inr ⟨k3, rfl, hk3l, by simp; omega, h6, h7⟩
                · exact .inl ⟨rfl, step3_no HCM.out HX1.out HX2.out hX3⟩
              case measure =>
                rcases HP3.out with ⟨c', k3, rfl, rfl, hc, hk3, hk3l, hX3⟩ | ⟨rfl, rfl, hX3⟩
                · exact HMS.out k3 hk3 (by have := HL.out; omega)
                · show atM s.size (.int .i64 (-1)) < atM s.size (.int .i64 (k : Int))
                  simp only [atM]
                  rw [if_pos (by decide), if_neg (by omega)]
                  omega
            · have HNG : Hid (NoG L) := step2_no HCM.out HX1.out hX2
              clear hX2
              go_wp2_with fail
              obtain ⟨r0, r1⟩ := putg (n := 0) (u := .slice none 0 0) Y0.out
              refine bodyPost_ret (v := .tuple #[.agg #[.int .i64 0, .slice none 0 0], .int .i64 3]) (by simp [results, Tryd.results12, go_sem, r0, r1]) rfl ⟨_, _, _, _, rfl, HRP.out _ _ _ (.inr ⟨rfl, rfl, rfl, HNG.out⟩), World.ownsRow_nil _ _ _ _, ?_⟩
              exact (HB.out.setCell (p := ⟨w.heap.size, 0, none⟩) (Nat.le_refl _) _).setCell (p := ⟨w.heap.size, 1, none⟩) (Nat.le_refl _) _
          · have HNG : Hid (NoG L) := step1_no HCM.out HR.out hX1
            clear hX1
            go_wp2_with fail
            obtain ⟨r0, r1⟩ := putg (n := 0) (u := .slice none 0 0) Y0.out
            refine bodyPost_ret (v := .tuple #[.agg #[.int .i64 0, .slice none 0 0], .int .i64 3]) (by simp [results, Tryd.results12, go_sem, r0, r1]) rfl ⟨_, _, _, _, rfl, HRP.out _ _ _ (.inr ⟨rfl, rfl, rfl, HNG.out⟩), World.ownsRow_nil _ _ _ _, ?_⟩
            exact (HB.out.setCell (p := ⟨w.heap.size, 0, none⟩) (Nat.le_refl _) _).setCell (p := ⟨w.heap.size, 1, none⟩) (Nat.le_refl _) _
        · have hk : k = L.length := by have := HL.out; omega
          have p1 : ¬ (k : Int) < (s.size : Int) := by omega
          have p2 : ¬ (k : Int) < 0 := by omega
          have HSN2 : Hid (Snd L N es []) := by have := HSN.out; rw [hk, List.drop_length] at this; exact this
          have HCM2 : Hid (Cmp L N es []) := by have := HCM.out; rw [hk, List.drop_length] at this; exact this
          have GR : Hid (EdR wr (.slice ua un uc) es) := RowK.own encE_len OW.out
          obtain ⟨qa, qc, qe, _, _, _⟩ := GR.out
          injection qe with e1 e2 e3
          subst e1 e2 e3
          clear hk HSN HCM
          have HFC := Lib.hid (fault_walk (.slice ua es.length uc) es N wr GR.out)
          by_cases hf : faultE N es = 0
          · rw [hf] at HFC
            have HSW : Hid (showL N es = L ∧ faultE N es = 0) := ⟨end_yes HSN2.out, hf⟩
            clear hf
            go_wp2_with fail
            refine HFC.out.mono ?_
            rintro e w1 ⟨rfl, hb1⟩
            have B1 : Hid (Below wr.heap.size wr w1) := hb1
            have Y0b : Hid (w1.heap[w.heap.size]? = some (.cells #[.int .i64 0, .slice none 0 0] 24 (0, 0))) := (hb1.block _ (by omega)).trans Y0.out
            have Y1b : Hid (w1.heap[w.heap.size + 1]? = some (.cells #[.int .i64 N, .slice ua es.length uc] 24 (0, 0))) := (hb1.block _ (by omega)).trans Y1.out
            have O1 : Hid (w1.ownsRow (w.heap.size + 2) 48 3 (.slice ua es.length uc) es.length (es.flatMap encE)) := own_below OW.out hb1 (Nat.le_refl _)
            have a0 : w1.cell? ⟨w.heap.size + 1, 0, none⟩ = some (.int .i64 N) := by rw [cell_of Y1b.out]; rfl
            have a1 : w1.cell? ⟨w.heap.size + 1, 1, none⟩ = some (.slice ua es.length uc) := by rw [cell_of Y1b.out]; rfl
            have x0 : w1.cell? ⟨w.heap.size, 0, none⟩ = some (.int .i64 0) := by rw [cell_of Y0b.out]; rfl
            have x1 : w1.cell? ⟨w.heap.size, 1, none⟩ = some (.slice none 0 0) := by rw [cell_of Y0b.out]; rfl
            have x2 : w1.frozen? ⟨w.heap.size, 0, none⟩ = false := by simp only [World.frozen?, Y0b.out]; simp
            have x3 : w1.frozen? ⟨w.heap.size, 1, none⟩ = false := by simp only [World.frozen?, Y0b.out]; simp
            clear hb1 c0 c1 z1 d0 d1 f0 f1 HFC
            go_wp2_with fail
            obtain ⟨r0, r1⟩ := putg (n := N) (u := .slice ua es.length uc) Y0b.out
            refine bodyPost_ret (v := .tuple #[.agg #[.int .i64 N, .slice ua es.length uc], .int .i64 0]) (by simp [results, Tryd.results12, go_sem, r0, r1]) rfl ⟨_, es, _, _, rfl, HRP.out _ _ _ (.inl ⟨rfl, HSW.out.2, HSW.out.1⟩), own_lower (own_setB (own_setB O1.out (by omega) _) (by omega) _) (by omega), ?_⟩
            exact ((HB.out.trans (below_low B1.out (by omega))).setCell (p := ⟨w.heap.size, 0, none⟩) (Nat.le_refl _) _).setCell (p := ⟨w.heap.size, 1, none⟩) (Nat.le_refl _) _
          · have HNG : Hid (NoG L) := end_no HCM2.out hf
            have hne : (faultE N es != 0) = true := by simpa using hf
            generalize faultE N es = fe at HFC hne
            clear hf
            go_wp2_with fail
            refine HFC.out.mono ?_
            rintro e w1 ⟨rfl, hb1⟩
            have B1 : Hid (Below wr.heap.size wr w1) := hb1
            have Y0b : Hid (w1.heap[w.heap.size]? = some (.cells #[.int .i64 0, .slice none 0 0] 24 (0, 0))) := (hb1.block _ (by omega)).trans Y0.out
            have x0 : w1.cell? ⟨w.heap.size, 0, none⟩ = some (.int .i64 0) := by rw [cell_of Y0b.out]; rfl
            have x1 : w1.cell? ⟨w.heap.size, 1, none⟩ = some (.slice none 0 0) := by rw [cell_of Y0b.out]; rfl
            have x2 : w1.frozen? ⟨w.heap.size, 0, none⟩ = false := by simp only [World.frozen?, Y0b.out]; simp
            have x3 : w1.frozen? ⟨w.heap.size, 1, none⟩ = false := by simp only [World.frozen?, Y0b.out]; simp
            clear hb1 c0 c1 z1 d0 d1 f0 f1 HFC
            go_wp2_with fail
            obtain ⟨r0, r1⟩ := putg (n := 0) (u := .slice none 0 0) Y0b.out
            refine bodyPost_ret (v := .tuple #[.agg #[.int .i64 0, .slice none 0 0], .int .i64 3]) (by simp [results, Tryd.results12, go_sem, r0, r1]) rfl ⟨_, _, _, _, rfl, HRP.out _ _ _ (.inr ⟨rfl, rfl, rfl, HNG.out⟩), World.ownsRow_nil _ _ _ _, ?_⟩
            exact ((HB.out.trans (below_low B1.out (by omega))).setCell (p := ⟨w.heap.size, 0, none⟩) (Nat.le_refl _) _).setCell (p := ⟨w.heap.size, 1, none⟩) (Nat.le_refl _) _
end Go.Proofs.YtcfcpibamjgodaaDoor
