/-
  Contract of done: a disk that may be, behind some notes; it says that all went well.
-/
import Derived.Test.YtdhaccljidhdcabKeepWords
import Derived.Test.YtdhaccljidhdcabNoteOpen
import Derived.Deep.RegionHeld3
namespace Go.Proofs.Ytdhaccljidhdcab
open Go.ChangeShapes Go.WideShapes Go.ChangeAt Go.RowKit

theorem heap_second (w : World) (o1 : Obj) (cs : Array Value) (t : TypeId) : ((w.alloc o1).alloc (.cells cs t)).heap[w.heap.size + 1]? = some (.cells cs t (0, 0)) := by
  have := heap_alloc_new (w.alloc o1) (.cells cs t)
  simpa using this
theorem heap_box_set {W : World} {B : Nat} {v : Value} {t : TypeId} (x : Value) (h : W.heap[B]? = some (.cells #[v] t (0, 0))) : (W.setCell ⟨B, 0, none⟩ x).heap[B]? = some (.cells #[x] t (0, 0)) := by
  simp [World.setCell, Array.getElem?_modify, h]
theorem heap_box_other {W : World} {B C : Nat} (x : Value) (h : B ≠ C) : (W.setCell ⟨C, 0, none⟩ x).heap[B]? = W.heap[B]? := by
  simp only [World.setCell, Array.getElem?_modify]
  rw [if_neg (fun e => h e.symm)]
theorem NotesR.below {w w' : World} {v : Value} {ns : List NoteL} {B : Nat} (h : NotesR w v ns) (hb : Below B w w') (hB : w.heap.size ≤ B) : NotesR w' v ns := by
  obtain ⟨a, cap, rfl, hc, hm, hel⟩ := h
  refine ⟨a, cap, rfl, hc, hm, fun hn => ?_⟩
  obtain ⟨b, off, e, lt, vs, hv⟩ := hel hn
  have hlt : b < B := Nat.lt_of_lt_of_le lt hB
  refine ⟨b, off, e, Nat.lt_of_lt_of_le lt hb.size, vs, fun i hi => ?_⟩
  obtain ⟨h1, h2, h3, h4, h5⟩ := hv i hi
  exact ⟨(hb.cell (p := ⟨b, off + i * 4, none⟩) hlt).trans h1, (hb.cell (p := ⟨b, off + i * 4 + 1, none⟩) hlt).trans h2, (hb.cell (p := ⟨b, off + i * 4 + 2, none⟩) hlt).trans h3, (hb.cell (p := ⟨b, off + i * 4 + 3, none⟩) hlt).trans h4, h5.below hb hB⟩

set_option maxHeartbeats 4000000 in
set_option maxRecDepth 100000 in
theorem done_any (v : Value) (ns : List NoteL) (w : World) (h : NotesR w v ns) (hg : GoodN ns) :
    Calls Try.prog 8 #[v] w fun e w' => ∃ v' fs, e = .returned (.tuple #[.agg #[v'], .bool true]) ∧ DiskR w' v' fs ∧ Inv fs 20 600 ∧ Below w.heap.size w w' := by
  have HN : Hid (NotesR w v ns) := h
  have HG : Hid (GoodN ns) := hg
  obtain ⟨a, cap, rfl, hc, hm, _⟩ := h
  clear hg
  unfold maxLen at hm
  go_enter Try.func8, Try.ntmps8
  go_wp2_with fail
  go_loopw [5, 6, 7, 8] (fun i _ _ _ wr => ∃ (m : Nat) (da : Option Addr) (dn dc : Nat) (fs : List FileL), m ≤ ns.length ∧ m ≤ 20 ∧ i = .int .i64 m ∧ wr.heap[w.heap.size + 1]? = some (.cells #[.slice da dn dc] 26 (0, 0)) ∧ DiskR wr (.slice da dn dc) fs ∧ Inv fs m (30 * m) ∧ Below (w.heap.size + 1) (w.alloc (.cells #[.slice none 0 0] 26)) wr) (fun i _ _ _ _ => ns.length - (intOf i).toNat)
  case atStart => exact ⟨0, none, 0, 0, [], by omega, by omega, rfl, heap_second _ _ _ _, diskR_nil _, inv_nil, (below_alloc _ _).mono (by simp)⟩
  case round =>
    obtain ⟨m, da, dn, dc, fs, hm1, hm2, rfl, hblk, hd, hinv, hbel⟩ := hrel
    have HBLK : Hid (wr.heap[w.heap.size + 1]? = some (.cells #[.slice da dn dc] 26 (0, 0))) := hblk
    have HD : Hid (DiskR wr (.slice da dn dc) fs) := hd
    have HI : Hid (Inv fs m (30 * m)) := hinv
    have HB : Hid (Below (w.heap.size + 1) (w.alloc (.cells #[.slice none 0 0] 26)) wr) := hbel
    have hdc : wr.cell? ⟨w.heap.size + 1, 0, none⟩ = some (.slice da dn dc) := by rw [cell_of_row wr _ _ _ _ _ hblk]; rfl
    have hdf : wr.frozen? ⟨w.heap.size + 1, 0, none⟩ = false := by simp only [World.frozen?, hblk]; simp
    have hlt1 : w.heap.size + 1 < wr.heap.size := World.block_lt_of_cell? _ _ hdc
    have t1 := box_cell hbel
    have t2 : wr.frozen? ⟨w.heap.size, 0, none⟩ = false := (hbel.frozen (p := ⟨w.heap.size, 0, none⟩) (Nat.lt_succ_self _)).trans (frozen_new0 _ _ _)
    clear hblk hd hinv hbel
    by_cases hlt : m < ns.length
    · by_cases hlt2 : m < 20
      · have hlt2' : (m : Int) < 20 := by omega
        obtain ⟨a', cap', e9, _, _, hel⟩ := HN.out
        injection e9 with e9 _ e8
        subst e9 e8
        obtain ⟨b, off, rfl, hbw, vs, hv⟩ := hel (by omega)
        have hbw2 : b < wr.heap.size := by omega
        have hbc : ∀ j, wr.cell? ⟨b, j, none⟩ = w.cell? ⟨b, j, none⟩ := fun j => (box_below HB.out).cell (p := ⟨b, j, none⟩) hbw
        obtain ⟨c1, c2, c3, c4, c5⟩ := hv m hlt
        rw [← hbc] at c1 c2 c3 c4
        have RD : Hid (Reads .u8 wr (vs m) (ns.getD m noN).data) := c5.below (box_below HB.out) (Nat.le_refl _)
        obtain ⟨g1, g2, g3, g4⟩ := HG.out m hlt
        have G2 : Hid (i64B (ns.getD m noN).name) := g2
        have G3 : Hid (i64B (ns.getD m noN).keep) := g3
        have G4 : Hid (∀ x ∈ (ns.getD m noN).data, 0 ≤ x ∧ x ≤ 255) := g4
        have G1 : Hid (i64B (ns.getD m noN).kind) := g1
        clear g1 g2 g3 g4 c5 hv hel hbc
        generalize vs m = xv at *
        obtain ⟨xa, xn, xc, rfl⟩ : ∃ a n c, xv = .slice a n c := by obtain ⟨a, c, h, _⟩ := RD.out; exact ⟨_, _, _, h⟩
        generalize ns.getD m noN = nt at *
        have q0 : (0 : Int) ≤ (m : Int) := by omega
        have q1 : (m : Int) < (ns.length : Int) := by omega
        go_wp2_with fail
        refine (picked_any nt.kind 6 _ G1.out.1 G1.out.2 (by omega) (by omega)).mono ?_
        rintro e w1 ⟨rfl, rfl⟩
        have hpk := pickF_bd nt.kind 6 (by omega)
        generalize pickF nt.kind 6 = pk at *
        have hpW : True := trivial
        have NB0 := heap_second wr (.cells #[.int .i64 nt.kind, .int .i64 nt.name, .int .i64 nt.keep, .slice xa xn xc] 46) #[.slice none 0 0] 26
        have XB0 : ((wr.alloc (.cells #[.int .i64 nt.kind, .int .i64 nt.name, .int .i64 nt.keep, .slice xa xn xc] 46)).alloc (.cells #[.slice none 0 0] 26)).heap[wr.heap.size]? = some (.cells #[.int .i64 nt.kind, .int .i64 nt.name, .int .i64 nt.keep, .slice xa xn xc] 46 (0, 0)) := ((below_alloc _ _).block _ (by simp)).trans (heap_alloc_new _ _)
        have BW0 : Below wr.heap.size wr ((wr.alloc (.cells #[.int .i64 nt.kind, .int .i64 nt.name, .int .i64 nt.keep, .slice xa xn xc] 46)).alloc (.cells #[.slice none 0 0] 26)) := (below_alloc _ _).alloc (by simp) _
        have hsW : wr.heap.size + 2 ≤ ((wr.alloc (.cells #[.int .i64 nt.kind, .int .i64 nt.name, .int .i64 nt.keep, .slice xa xn xc] 46)).alloc (.cells #[.slice none 0 0] 26)).heap.size := by simp
        generalize (wr.alloc (.cells #[.int .i64 nt.kind, .int .i64 nt.name, .int .i64 nt.keep, .slice xa xn xc] 46)).alloc (.cells #[.slice none 0 0] 26) = W at *
        have NB : Hid (W.heap[wr.heap.size + 1]? = some (.cells #[.slice none 0 0] 26 (0, 0))) := NB0
        have DB : Hid (W.heap[w.heap.size + 1]? = some (.cells #[.slice da dn dc] 26 (0, 0))) := (BW0.block _ hlt1).trans HBLK.out
        have BW : Hid (Below wr.heap.size wr W) := BW0
        have DW : Hid (DiskR W (.slice da dn dc) fs) := HD.out.below BW0 (Nat.le_refl _)
        have RW : Hid (Reads .u8 W (.slice xa xn xc) nt.data) := RD.out.below BW0 (Nat.le_refl _)
        have d0 : W.cell? ⟨w.heap.size + 1, 0, none⟩ = some (.slice da dn dc) := (BW0.cell (p := ⟨w.heap.size + 1, 0, none⟩) hlt1).trans hdc
        have x1 : W.cell? ⟨wr.heap.size, 1, none⟩ = some (.int .i64 nt.name) := by rw [cell_of_row W _ _ _ _ _ XB0]; rfl
        have x2 : W.cell? ⟨wr.heap.size, 2, none⟩ = some (.int .i64 nt.keep) := by rw [cell_of_row W _ _ _ _ _ XB0]; rfl
        have x3 : W.cell? ⟨wr.heap.size, 3, none⟩ = some (.slice xa xn xc) := by rw [cell_of_row W _ _ _ _ _ XB0]; rfl
        have HS : Hid (∀ W', Below W.heap.size W W' → W'.cell? ⟨w.heap.size + 1, 0, none⟩ = some (.slice da dn dc) ∧ W'.cell? ⟨wr.heap.size, 1, none⟩ = some (.int .i64 nt.name) ∧ W'.cell? ⟨wr.heap.size, 2, none⟩ = some (.int .i64 nt.keep) ∧ W'.cell? ⟨wr.heap.size, 3, none⟩ = some (.slice xa xn xc)) := fun W' hb =>
          ⟨(hb.cell (p := ⟨w.heap.size + 1, 0, none⟩) (show w.heap.size + 1 < W.heap.size by omega)).trans d0, (hb.cell (p := ⟨wr.heap.size, 1, none⟩) (show wr.heap.size < W.heap.size by omega)).trans x1, (hb.cell (p := ⟨wr.heap.size, 2, none⟩) (show wr.heap.size < W.heap.size by omega)).trans x2, (hb.cell (p := ⟨wr.heap.size, 3, none⟩) (show wr.heap.size < W.heap.size by omega)).trans x3⟩
        have HS2 : Hid (∀ W' y, Below W.heap.size W W' → (W'.setCell ⟨wr.heap.size + 1, 0, none⟩ y).cell? ⟨w.heap.size + 1, 0, none⟩ = some (.slice da dn dc) ∧ (W'.setCell ⟨wr.heap.size + 1, 0, none⟩ y).cell? ⟨wr.heap.size, 1, none⟩ = some (.int .i64 nt.name) ∧ (W'.setCell ⟨wr.heap.size + 1, 0, none⟩ y).cell? ⟨wr.heap.size, 2, none⟩ = some (.int .i64 nt.keep) ∧ (W'.setCell ⟨wr.heap.size + 1, 0, none⟩ y).cell? ⟨wr.heap.size, 3, none⟩ = some (.slice xa xn xc)) := fun W' y hb => by
          obtain ⟨e1, e2, e3, e4⟩ := HS.out W' hb
          refine ⟨?_, ?_, ?_, ?_⟩
          all_goals rw [World.cell?_setCell_other _ _ _ _ (fun e => by have h9 := congrArg Addr.block e; simp at h9 <;> omega)]; assumption
        have HNX : Hid (∀ W', Below W.heap.size W W' → W'.heap[wr.heap.size + 1]? = some (.cells #[.slice none 0 0] 26 (0, 0)) ∧ W'.heap[w.heap.size + 1]? = some (.cells #[.slice da dn dc] 26 (0, 0)) ∧ W'.cell? ⟨wr.heap.size + 1, 0, none⟩ = some (.slice none 0 0) ∧ W'.frozen? ⟨wr.heap.size + 1, 0, none⟩ = false ∧ W'.frozen? ⟨w.heap.size + 1, 0, none⟩ = false) := fun W' hb => by
          have e1 := (hb.block (wr.heap.size + 1) (by omega)).trans NB.out
          have e2 := (hb.block (w.heap.size + 1) (by omega)).trans DB.out
          exact ⟨e1, e2, by rw [cell_of_row W' _ _ _ _ _ e1]; rfl, by simp only [World.frozen?, e1]; simp, by simp only [World.frozen?, e2]; simp⟩
        clear NB0 XB0 BW0 d0 x1 x2 x3 hdc hdf t1 t2 c1 c2 c3 c4 hpW
        have HCH : Hid (∀ g, chF fs g = g) := fun g => by simp [chF, HI.out.may]
        by_cases hp0 : pk = 0
        · have ep0 : (pk == 0) = true := by simp [hp0]
          clear hp0
          have HK : Hid ((syncF fs (nmF nt.name)).2 = 0 → Inv (syncF fs (nmF nt.name)).1 m (30 * m)) := sync_keeps HI.out
          go_wp2_with fail
          go_region_held3 (fun V => V.cell? ⟨w.heap.size + 1, 0, none⟩ = some (.slice da dn dc) ∧ V.cell? ⟨wr.heap.size, 1, none⟩ = some (.int .i64 nt.name) ∧ V.cell? ⟨wr.heap.size, 2, none⟩ = some (.int .i64 nt.keep) ∧ V.cell? ⟨wr.heap.size, 3, none⟩ = some (.slice xa xn xc)) (first | exact HS.out _ (Below.refl _ _).drew | exact HS2.out _ _ HC7.out | exact HS.out _ HC7.out | exact HS.out _ HC6.out) (first
            | (go_at_call 11; refine (name_any _ _ ?_ ?_).mono ?_; (first | exact G2.out.1 | exact G3.out.1); (first | exact G2.out.2 | exact G3.out.2); rintro e w6 ⟨rfl, hb6⟩
               have HC6 : Hid (Below W.heap.size W w6) := by (first | exact HC6.out.trans (hb6.mono HC6.out.size) | exact ((Below.refl _ _).drew).trans (hb6.mono (by simp)))
               clear hb6)
            | (go_at_call 14; refine (diskSync_any _ fs (nmF nt.name) _ ?_ HI.out.good).mono ?_
               exact DW.out.below HC6.out (Nat.le_refl _)
               rintro e w7 ⟨v7, rfl, hr7, hb7⟩
               have HC7 : Hid (Below W.heap.size W w7) := HC6.out.trans (hb7.mono HC6.out.size)
               have R7 : Hid (DiskR w7 v7 (chF fs (syncF fs (nmF nt.name))).1) := hr7
               obtain ⟨nb7, db7, n7, nf7, df7⟩ := HNX.out w7 HC7.out
               have NB7 : Hid (w7.heap[wr.heap.size + 1]? = some (.cells #[.slice none 0 0] 26 (0, 0))) := nb7
               have DB7 : Hid (w7.heap[w.heap.size + 1]? = some (.cells #[.slice da dn dc] 26 (0, 0))) := db7
               obtain ⟨va, vc, rfl, _, _, _, _⟩ := hr7
               clear hb7 nb7 db7))
          rw [HCH.out] at *
          generalize syncF fs (nmF nt.name) = q at *
          obtain ⟨q1, q2⟩ := q
          have vd := (HS2.out w7 (.slice va q1.length vc) HC7.out).1
          have v0 : (w7.setCell ⟨wr.heap.size + 1, 0, none⟩ (.slice va q1.length vc)).cell? ⟨wr.heap.size + 1, 0, none⟩ = some (.slice va q1.length vc) := World.cell?_setCell_same _ _ _ n7
          have vdf : (w7.setCell ⟨wr.heap.size + 1, 0, none⟩ (.slice va q1.length vc)).frozen? ⟨w.heap.size + 1, 0, none⟩ = false := (World.frozen?_setCell _ _ _ _).trans df7
          have DBV : Hid ((w7.setCell ⟨wr.heap.size + 1, 0, none⟩ (.slice va q1.length vc)).heap[w.heap.size + 1]? = some (.cells #[.slice da dn dc] 26 (0, 0))) := (heap_box_other _ (by omega)).trans DB7.out
          have RV : Hid (DiskR (w7.setCell ⟨wr.heap.size + 1, 0, none⟩ (.slice va q1.length vc)) (.slice va q1.length vc) q1) := R7.out.setBox NB7.out
          have DV : Hid (DiskR (w7.setCell ⟨wr.heap.size + 1, 0, none⟩ (.slice va q1.length vc)) (.slice da dn dc) fs) := (DW.out.below HC7.out (Nat.le_refl _)).setBox NB7.out
          have BV : Hid (Below (w.heap.size + 1) (w.alloc (.cells #[.slice none 0 0] 26)) (w7.setCell ⟨wr.heap.size + 1, 0, none⟩ (.slice va q1.length vc))) := (HB.out.trans ((BW.out.trans (HC7.out.mono (by omega))).mono (by omega))).setCell (p := ⟨wr.heap.size + 1, 0, none⟩) (show w.heap.size + 1 ≤ wr.heap.size + 1 by omega) _
          clear n7 nf7 df7 R7 NB7 DB7 HC6 HC7 HS HS2 HNX DW RW NB DB BW
          generalize w7.setCell ⟨wr.heap.size + 1, 0, none⟩ (.slice va q1.length vc) = V at *
          by_cases hz : q2 = 0
          · subst hz
            have e0 : ((0 : Int) == 0) = true := rfl
            go_wp2_with fail
            go_roundw
            case rel => exact ⟨m + 1, _, _, _, q1, by omega, by omega, by go_num, heap_box_set _ DBV.out, RV.out.setBox DBV.out, (HK.out rfl).mono (by omega) (by omega), BV.out.setCell (p := ⟨w.heap.size + 1, 0, none⟩) (show w.heap.size + 1 ≤ w.heap.size + 1 from Nat.le_refl _) _⟩
            case measure => simp [intOf]; omega
          · have e0 : (q2 == 0) = false := by simp [hz]
            go_wp2_with fail
            go_roundw
            case rel => exact ⟨m + 1, _, _, _, fs, by omega, by omega, by go_num, DBV.out, DV.out, HI.out.mono (by omega) (by omega), BV.out⟩
            case measure => simp [intOf]; omega
        have ep0 : (pk == 0) = false := by simp [hp0]
        by_cases hp1 : pk = 1
        · have ep1 : (pk == 1) = true := by simp [hp1]
          clear hp1
          have HK : Hid ((renameF fs (nmF nt.name) (nmF nt.keep)).2 = 0 → Inv (renameF fs (nmF nt.name) (nmF nt.keep)).1 m (30 * m)) := rename_keeps HI.out (nmF_ok _) (nmF_max _)
          go_wp2_with fail
          go_region_held3 (fun V => V.cell? ⟨w.heap.size + 1, 0, none⟩ = some (.slice da dn dc) ∧ V.cell? ⟨wr.heap.size, 1, none⟩ = some (.int .i64 nt.name) ∧ V.cell? ⟨wr.heap.size, 2, none⟩ = some (.int .i64 nt.keep) ∧ V.cell? ⟨wr.heap.size, 3, none⟩ = some (.slice xa xn xc)) (first | exact HS.out _ (Below.refl _ _).drew | exact HS2.out _ _ HC7.out | exact HS.out _ HC7.out | exact HS.out _ HC6.out) (first
            | (go_at_call 11; refine (name_any _ _ ?_ ?_).mono ?_; (first | exact G2.out.1 | exact G3.out.1); (first | exact G2.out.2 | exact G3.out.2); rintro e w6 ⟨rfl, hb6⟩
               have HC6 : Hid (Below W.heap.size W w6) := by (first | exact HC6.out.trans (hb6.mono HC6.out.size) | exact ((Below.refl _ _).drew).trans (hb6.mono (by simp)))
               clear hb6)
            | (go_at_call 17; refine (diskRename_any _ fs (nmF nt.name) (nmF nt.keep) _ ?_ HI.out.good (nmF_max _) (nmF_max _)).mono ?_
               exact DW.out.below HC6.out (Nat.le_refl _)
               rintro e w7 ⟨v7, rfl, hr7, hb7⟩
               have HC7 : Hid (Below W.heap.size W w7) := HC6.out.trans (hb7.mono HC6.out.size)
               have R7 : Hid (DiskR w7 v7 (chF fs (renameF fs (nmF nt.name) (nmF nt.keep))).1) := hr7
               obtain ⟨nb7, db7, n7, nf7, df7⟩ := HNX.out w7 HC7.out
               have NB7 : Hid (w7.heap[wr.heap.size + 1]? = some (.cells #[.slice none 0 0] 26 (0, 0))) := nb7
               have DB7 : Hid (w7.heap[w.heap.size + 1]? = some (.cells #[.slice da dn dc] 26 (0, 0))) := db7
               obtain ⟨va, vc, rfl, _, _, _, _⟩ := hr7
               clear hb7 nb7 db7))
          rw [HCH.out] at *
          generalize renameF fs (nmF nt.name) (nmF nt.keep) = q at *
          obtain ⟨q1, q2⟩ := q
          have vd := (HS2.out w7 (.slice va q1.length vc) HC7.out).1
          have v0 : (w7.setCell ⟨wr.heap.size + 1, 0, none⟩ (.slice va q1.length vc)).cell? ⟨wr.heap.size + 1, 0, none⟩ = some (.slice va q1.length vc) := World.cell?_setCell_same _ _ _ n7
          have vdf : (w7.setCell ⟨wr.heap.size + 1, 0, none⟩ (.slice va q1.length vc)).frozen? ⟨w.heap.size + 1, 0, none⟩ = false := (World.frozen?_setCell _ _ _ _).trans df7
          have DBV : Hid ((w7.setCell ⟨wr.heap.size + 1, 0, none⟩ (.slice va q1.length vc)).heap[w.heap.size + 1]? = some (.cells #[.slice da dn dc] 26 (0, 0))) := (heap_box_other _ (by omega)).trans DB7.out
          have RV : Hid (DiskR (w7.setCell ⟨wr.heap.size + 1, 0, none⟩ (.slice va q1.length vc)) (.slice va q1.length vc) q1) := R7.out.setBox NB7.out
          have DV : Hid (DiskR (w7.setCell ⟨wr.heap.size + 1, 0, none⟩ (.slice va q1.length vc)) (.slice da dn dc) fs) := (DW.out.below HC7.out (Nat.le_refl _)).setBox NB7.out
          have BV : Hid (Below (w.heap.size + 1) (w.alloc (.cells #[.slice none 0 0] 26)) (w7.setCell ⟨wr.heap.size + 1, 0, none⟩ (.slice va q1.length vc))) := (HB.out.trans ((BW.out.trans (HC7.out.mono (by omega))).mono (by omega))).setCell (p := ⟨wr.heap.size + 1, 0, none⟩) (show w.heap.size + 1 ≤ wr.heap.size + 1 by omega) _
          clear n7 nf7 df7 R7 NB7 DB7 HC6 HC7 HS HS2 HNX DW RW NB DB BW
          generalize w7.setCell ⟨wr.heap.size + 1, 0, none⟩ (.slice va q1.length vc) = V at *
          by_cases hz : q2 = 0
          · subst hz
            have e0 : ((0 : Int) == 0) = true := rfl
            go_wp2_with fail
            go_roundw
            case rel => exact ⟨m + 1, _, _, _, q1, by omega, by omega, by go_num, heap_box_set _ DBV.out, RV.out.setBox DBV.out, (HK.out rfl).mono (by omega) (by omega), BV.out.setCell (p := ⟨w.heap.size + 1, 0, none⟩) (show w.heap.size + 1 ≤ w.heap.size + 1 from Nat.le_refl _) _⟩
            case measure => simp [intOf]; omega
          · have e0 : (q2 == 0) = false := by simp [hz]
            go_wp2_with fail
            go_roundw
            case rel => exact ⟨m + 1, _, _, _, fs, by omega, by omega, by go_num, DBV.out, DV.out, HI.out.mono (by omega) (by omega), BV.out⟩
            case measure => simp [intOf]; omega
        have ep1 : (pk == 1) = false := by simp [hp1]
        by_cases hp2 : pk = 2
        · have ep2 : (pk == 2) = true := by simp [hp2]
          clear hp2
          have HK : Hid ((removeF fs (nmF nt.name)).2 = 0 → Inv (removeF fs (nmF nt.name)).1 m (30 * m)) := remove_keeps HI.out
          go_wp2_with fail
          go_region_held3 (fun V => V.cell? ⟨w.heap.size + 1, 0, none⟩ = some (.slice da dn dc) ∧ V.cell? ⟨wr.heap.size, 1, none⟩ = some (.int .i64 nt.name) ∧ V.cell? ⟨wr.heap.size, 2, none⟩ = some (.int .i64 nt.keep) ∧ V.cell? ⟨wr.heap.size, 3, none⟩ = some (.slice xa xn xc)) (first | exact HS.out _ (Below.refl _ _).drew | exact HS2.out _ _ HC7.out | exact HS.out _ HC7.out | exact HS.out _ HC6.out) (first
            | (go_at_call 11; refine (name_any _ _ ?_ ?_).mono ?_; (first | exact G2.out.1 | exact G3.out.1); (first | exact G2.out.2 | exact G3.out.2); rintro e w6 ⟨rfl, hb6⟩
               have HC6 : Hid (Below W.heap.size W w6) := by (first | exact HC6.out.trans (hb6.mono HC6.out.size) | exact ((Below.refl _ _).drew).trans (hb6.mono (by simp)))
               clear hb6)
            | (go_at_call 18; refine (diskRemove_any _ fs (nmF nt.name) _ ?_ HI.out.good (nmF_max _)).mono ?_
               exact DW.out.below HC6.out (Nat.le_refl _)
               rintro e w7 ⟨v7, rfl, hr7, hb7⟩
               have HC7 : Hid (Below W.heap.size W w7) := HC6.out.trans (hb7.mono HC6.out.size)
               have R7 : Hid (DiskR w7 v7 (chF fs (removeF fs (nmF nt.name))).1) := hr7
               obtain ⟨nb7, db7, n7, nf7, df7⟩ := HNX.out w7 HC7.out
               have NB7 : Hid (w7.heap[wr.heap.size + 1]? = some (.cells #[.slice none 0 0] 26 (0, 0))) := nb7
               have DB7 : Hid (w7.heap[w.heap.size + 1]? = some (.cells #[.slice da dn dc] 26 (0, 0))) := db7
               obtain ⟨va, vc, rfl, _, _, _, _⟩ := hr7
               clear hb7 nb7 db7))
          rw [HCH.out] at *
          generalize removeF fs (nmF nt.name) = q at *
          obtain ⟨q1, q2⟩ := q
          have vd := (HS2.out w7 (.slice va q1.length vc) HC7.out).1
          have v0 : (w7.setCell ⟨wr.heap.size + 1, 0, none⟩ (.slice va q1.length vc)).cell? ⟨wr.heap.size + 1, 0, none⟩ = some (.slice va q1.length vc) := World.cell?_setCell_same _ _ _ n7
          have vdf : (w7.setCell ⟨wr.heap.size + 1, 0, none⟩ (.slice va q1.length vc)).frozen? ⟨w.heap.size + 1, 0, none⟩ = false := (World.frozen?_setCell _ _ _ _).trans df7
          have DBV : Hid ((w7.setCell ⟨wr.heap.size + 1, 0, none⟩ (.slice va q1.length vc)).heap[w.heap.size + 1]? = some (.cells #[.slice da dn dc] 26 (0, 0))) := (heap_box_other _ (by omega)).trans DB7.out
          have RV : Hid (DiskR (w7.setCell ⟨wr.heap.size + 1, 0, none⟩ (.slice va q1.length vc)) (.slice va q1.length vc) q1) := R7.out.setBox NB7.out
          have DV : Hid (DiskR (w7.setCell ⟨wr.heap.size + 1, 0, none⟩ (.slice va q1.length vc)) (.slice da dn dc) fs) := (DW.out.below HC7.out (Nat.le_refl _)).setBox NB7.out
          have BV : Hid (Below (w.heap.size + 1) (w.alloc (.cells #[.slice none 0 0] 26)) (w7.setCell ⟨wr.heap.size + 1, 0, none⟩ (.slice va q1.length vc))) := (HB.out.trans ((BW.out.trans (HC7.out.mono (by omega))).mono (by omega))).setCell (p := ⟨wr.heap.size + 1, 0, none⟩) (show w.heap.size + 1 ≤ wr.heap.size + 1 by omega) _
          clear n7 nf7 df7 R7 NB7 DB7 HC6 HC7 HS HS2 HNX DW RW NB DB BW
          generalize w7.setCell ⟨wr.heap.size + 1, 0, none⟩ (.slice va q1.length vc) = V at *
          by_cases hz : q2 = 0
          · subst hz
            have e0 : ((0 : Int) == 0) = true := rfl
            go_wp2_with fail
            go_roundw
            case rel => exact ⟨m + 1, _, _, _, q1, by omega, by omega, by go_num, heap_box_set _ DBV.out, RV.out.setBox DBV.out, (HK.out rfl).mono (by omega) (by omega), BV.out.setCell (p := ⟨w.heap.size + 1, 0, none⟩) (show w.heap.size + 1 ≤ w.heap.size + 1 from Nat.le_refl _) _⟩
            case measure => simp [intOf]; omega
          · have e0 : (q2 == 0) = false := by simp [hz]
            go_wp2_with fail
            go_roundw
            case rel => exact ⟨m + 1, _, _, _, fs, by omega, by omega, by go_num, DBV.out, DV.out, HI.out.mono (by omega) (by omega), BV.out⟩
            case measure => simp [intOf]; omega
        have ep2 : (pk == 2) = false := by simp [hp2]
        have hbt : ∀ x ∈ nt.data.take 30, 0 ≤ x ∧ x ≤ 255 := fun x hx => G4.out x (List.mem_of_mem_take hx)
        have ht30 : (nt.data.take 30).length ≤ 30 := by rw [List.length_take]; omega
        obtain ⟨q1, hq, hI9, hpos, _⟩ := append_does HI.out (nmF_ok nt.name) (nmF_max _) hbt (by omega) (by omega)
        have HQ : Hid (chF fs (appendF fs (nmF nt.name) (nt.data.take 30)) = (q1, 0)) := (HCH.out _).trans hq
        have HI9 : Hid (Inv q1 (m + 1) (30 * m + (nt.data.take 30).length)) := hI9
        have HBT : Hid (∀ x ∈ nt.data.take 30, 0 ≤ x ∧ x ≤ 255) := hbt
        have hl0 : ((q1.length : Int) == 0) = false := by rw [beq_eq_false_iff_ne]; omega
        clear hq hI9 hbt hpos
        generalize hxs : nt.data.take 30 = xs at *
        have HXS : Hid (nt.data.take 30 = xs) := hxs
        clear hxs
        go_wp2_with fail
        go_region_held3 (fun V => V.cell? ⟨w.heap.size + 1, 0, none⟩ = some (.slice da dn dc) ∧ V.cell? ⟨wr.heap.size, 1, none⟩ = some (.int .i64 nt.name) ∧ V.cell? ⟨wr.heap.size, 2, none⟩ = some (.int .i64 nt.keep) ∧ V.cell? ⟨wr.heap.size, 3, none⟩ = some (.slice xa xn xc)) (first | exact HS.out _ (Below.refl _ _).drew | exact HS2.out _ _ HC7.out | exact HS.out _ HC7.out | exact HS.out _ HC8.out | exact HS.out _ HC6.out) (first
          | (go_at_call 11; refine (name_any _ _ ?_ ?_).mono ?_; exact G2.out.1; exact G2.out.2; rintro e w6 ⟨rfl, hb6⟩
             have HC6 : Hid (Below W.heap.size W w6) := ((Below.refl _ _).drew).trans (hb6.mono (by simp))
             clear hb6)
          | (go_at_call 9; refine (some_any _ nt.data 30 _ ?_ ?_).mono ?_; exact RW.out.below HC6.out (Nat.le_refl _); omega; rintro e w8 ⟨v8, rfl, ho8, hb8⟩
             have HC8 : Hid (Below W.heap.size W w8) := HC6.out.trans (hb8.mono HC6.out.size)
             have O8 : Hid (Reads .u8 w8 v8 xs) := by show Reads _ _ _ _; rw [← HXS.out]; exact reads_own ho8
             obtain ⟨ya, yn, yc, rfl⟩ : ∃ a n c, v8 = .slice a n c := by obtain ⟨a, c, h, _⟩ := O8.out; exact ⟨_, _, _, h⟩
             clear hb8 ho8)
          | (go_at_call 12; refine (diskAppend_any _ fs (nmF nt.name) _ xs _ ?_ HI.out.good (nmF_max _) ?_ HBT.out).mono ?_
             exact DW.out.below HC8.out (Nat.le_refl _)
             exact O8.out
             rintro e w7 ⟨v7, rfl, hr7, hb7⟩
             have HC7 : Hid (Below W.heap.size W w7) := HC8.out.trans (hb7.mono HC8.out.size)
             rw [HQ.out] at hr7 ⊢
             have R7 : Hid (DiskR w7 v7 q1) := hr7
             obtain ⟨nb7, db7, n7, nf7, df7⟩ := HNX.out w7 HC7.out
             have NB7 : Hid (w7.heap[wr.heap.size + 1]? = some (.cells #[.slice none 0 0] 26 (0, 0))) := nb7
             have DB7 : Hid (w7.heap[w.heap.size + 1]? = some (.cells #[.slice da dn dc] 26 (0, 0))) := db7
             obtain ⟨va, vc, hv7, _, _, _, _⟩ := hr7
             have hv8 : v7 = .slice va q1.length vc := hv7
             subst hv8
             clear hb7 nb7 db7 hv7))
        have vd := (HS2.out w7 (.slice va q1.length vc) HC7.out).1
        have v0 : (w7.setCell ⟨wr.heap.size + 1, 0, none⟩ (.slice va q1.length vc)).cell? ⟨wr.heap.size + 1, 0, none⟩ = some (.slice va q1.length vc) := World.cell?_setCell_same _ _ _ n7
        have vdf : (w7.setCell ⟨wr.heap.size + 1, 0, none⟩ (.slice va q1.length vc)).frozen? ⟨w.heap.size + 1, 0, none⟩ = false := (World.frozen?_setCell _ _ _ _).trans df7
        have DBV : Hid ((w7.setCell ⟨wr.heap.size + 1, 0, none⟩ (.slice va q1.length vc)).heap[w.heap.size + 1]? = some (.cells #[.slice da dn dc] 26 (0, 0))) := (heap_box_other _ (by omega)).trans DB7.out
        have RV : Hid (DiskR (w7.setCell ⟨wr.heap.size + 1, 0, none⟩ (.slice va q1.length vc)) (.slice va q1.length vc) q1) := R7.out.setBox NB7.out
        have BV : Hid (Below (w.heap.size + 1) (w.alloc (.cells #[.slice none 0 0] 26)) (w7.setCell ⟨wr.heap.size + 1, 0, none⟩ (.slice va q1.length vc))) := (HB.out.trans ((BW.out.trans (HC7.out.mono (by omega))).mono (by omega))).setCell (p := ⟨wr.heap.size + 1, 0, none⟩) (show w.heap.size + 1 ≤ wr.heap.size + 1 by omega) _
        clear n7 nf7 df7 R7 NB7 DB7 HC6 HC7 HS HS2 HNX DW RW NB DB BW
        generalize w7.setCell ⟨wr.heap.size + 1, 0, none⟩ (.slice va q1.length vc) = V at *
        have e0 : ((0 : Int) == 0) = true := rfl
        have e00 : ((0 : Int) != 0) = false := rfl
        go_wp2_with fail
        go_roundw
        case rel => exact ⟨m + 1, _, _, _, q1, by omega, by omega, by go_num, heap_box_set _ DBV.out, RV.out.setBox DBV.out, HI9.out.mono (by omega) (by omega), BV.out.setCell (p := ⟨w.heap.size + 1, 0, none⟩) (show w.heap.size + 1 ≤ w.heap.size + 1 from Nat.le_refl _) _⟩
        case measure => simp [intOf]; omega
      · have hlt2' : ¬ (m : Int) < 20 := by omega
        have RB : Hid (wr.heap[w.heap.size]? = some (.cells #[.slice none 0 0] 26 (0, 0))) := (HB.out.block _ (Nat.lt_succ_self _)).trans (heap_alloc_new _ _)
        have D6 : Hid (∀ y, DiskR (wr.setCell ⟨w.heap.size, 0, none⟩ y) (.slice da dn dc) fs) := fun y => HD.out.setBox RB.out
        go_wp2_with fail
        exact bodyPost_ret (v := .tuple #[.agg #[.slice da dn dc], .bool true]) (by simp [results, Try.results8, go_sem, t1]) rfl ⟨_, rfl, fs, D6.out _, HI.out.mono (show m ≤ 20 by omega) (show 30 * m ≤ 600 by omega), (box_below HB.out).setCell (p := ⟨w.heap.size, 0, none⟩) (show w.heap.size ≤ w.heap.size from Nat.le_refl _) _⟩
    · have hlt' : ¬ (m : Int) < (ns.length : Int) := by omega
      have RB : Hid (wr.heap[w.heap.size]? = some (.cells #[.slice none 0 0] 26 (0, 0))) := (HB.out.block _ (Nat.lt_succ_self _)).trans (heap_alloc_new _ _)
      have D6 : Hid (∀ y, DiskR (wr.setCell ⟨w.heap.size, 0, none⟩ y) (.slice da dn dc) fs) := fun y => HD.out.setBox RB.out
      go_wp2_with fail
      exact bodyPost_ret (v := .tuple #[.agg #[.slice da dn dc], .bool true]) (by simp [results, Try.results8, go_sem, t1]) rfl ⟨_, rfl, fs, D6.out _, HI.out.mono (show m ≤ 20 by omega) (show 30 * m ≤ 600 by omega), (box_below HB.out).setCell (p := ⟨w.heap.size, 0, none⟩) (show w.heap.size ≤ w.heap.size from Nat.le_refl _) _⟩
end Go.Proofs.Ytdhaccljidhdcab
