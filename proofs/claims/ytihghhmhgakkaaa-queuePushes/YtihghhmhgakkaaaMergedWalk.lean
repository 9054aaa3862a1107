/-
  Contract of merge's merged: lists in order, made one.
-/
import Derived.Test.YtihghhmhgakkaaaHeapOps
import Derived.Test.YtihghhmhgakkaaaMergedMath
import Derived.Test.YtihghhmhgakkaaaMailLists
namespace Go.Proofs.Ytihghhmhgakkaaa
set_option maxRecDepth 100000
open Go.ChangeShapes Go.WideShapes Go.ChangeAt Go.RowKit

theorem HX.start (w : World) : HX (w.alloc (.cells #[.slice none 0 0, fnM] 96)) w.heap.size [] := ⟨_, heap_alloc_new w _, World.ownsRow_nil _ _ _ _⟩
theorem heap_second2 (w : World) (o1 o2 : Obj) : ((w.alloc o1).alloc o2).heap[w.heap.size]? = some o1 := by
  have := heap_alloc_new w o1
  rw [← this]
  exact (below_alloc (w.alloc o1) o2).block w.heap.size (by simp)
/-- How long a slice is. -/
def lenV : Value → Nat
  | .slice _ n _ => n
  | _ => 0
theorem lenV_own {w : World} {base : Nat} {e : TypeId} {k n : Nat} {v : Value} {xs : List Value} (h : w.ownsRow base e k v n xs) : lenV v = n := by
  rcases own_shapeK h with ⟨rfl, h0, _⟩ | ⟨g, cap, rfl, _⟩
  · exact h0.symm
  · rfl

set_option maxHeartbeats 4000000 in
set_option maxRecDepth 100000 in
theorem merged_any (v : Value) (f : List (List Ml)) (w : World) (h : LmR w v f) (hf : f.length ≤ 5000) (hs : sumM f ≤ 5000) (hin : ∀ l ∈ f, InM l) :
    Calls Try.prog 54 #[v, .func (.func 51) #[] #[]] w fun e w' => ∃ v', e = .returned v' ∧ w'.ownsRow w.heap.size 27 2 v' (sortM f.flatten).length ((sortM f.flatten).flatMap encM) ∧ Below w.heap.size w w' := by
  have HR : Hid (LmR w v f) := h
  have HIN : Hid (∀ l ∈ f, InM l) := hin
  have HFL : Hid (f.flatten.length ≤ 5000) := by show _ ≤ _; rw [sumM_flat]; exact hs
  obtain ⟨a, cap, rfl, hc, hm, _⟩ := h
  unfold maxLen at hm
  have ta := assertD
  obtain ⟨F, hFe⟩ : ∃ F, f.flatten = F := ⟨_, rfl⟩
  have HFE : Hid (f.flatten = F) := hFe
  rw [hFe] at HFL ⊢
  clear hin hs hFe
  go_enter Try.func54, Try.ntmps54
  go_wp2_with fail
  have HX0 : Hid (HX (w.alloc (.cells #[.slice none 0 0, .func (.func 51) #[] #[]] 96)) w.heap.size []) := HX.start w
  have HB0 : Hid (Below w.heap.size w (w.alloc (.cells #[.slice none 0 0, .func (.func 51) #[] #[]] 96))) := below_alloc w _
  have hsz0 : (w.alloc (.cells #[.slice none 0 0, .func (.func 51) #[] #[]] 96)).heap.size = w.heap.size + 1 := by simp
  generalize w.alloc (.cells #[.slice none 0 0, .func (.func 51) #[] #[]] 96) = w0 at *
  have HSZ : Hid (w0.heap.size = w.heap.size + 1) := hsz0
  have hq0 : w.heap.size < w0.heap.size := by omega
  clear hsz0
  go_loopw [15] (fun i wr => ∃ (k : Nat) (hs : List Hd), k ≤ f.length ∧ i = .int .i64 k ∧ hs.length ≤ k ∧ HX wr w.heap.size hs ∧ flatD hs = (f.take k).flatten ∧ (∀ x ∈ hs, Gd w x) ∧ HK w.heap.size w0 wr) (fun i _ => f.length - (intOf i).toNat)
  case atStart => exact ⟨0, [], by omega, rfl, Nat.le_refl _, HX0.out, rfl, fun x hx => by simp at hx, HK.refl _ _⟩
  case round =>
    obtain ⟨k, hs, hk, rfl, hlk, hX, hfl, hgd, hK⟩ := hrel
    have HX' : Hid (HX wr w.heap.size hs) := hX
    have HF : Hid (flatD hs = (f.take k).flatten) := hfl
    have HG : Hid (∀ x ∈ hs, Gd w x) := hgd
    have HKW : Hid (HK w.heap.size w0 wr) := hK
    have HBW : Hid (Below w.heap.size w wr) := HB0.out.trans (hK.below (by omega))
    clear hX hfl hgd hK
    by_cases hlt : k < f.length
    · obtain ⟨b, off, cap', e1, lt, _, _, hv⟩ := (HR.out.below HBW.out (Nat.le_refl _)).at (by omega)
      injection e1 with e1 _ e3
      subst e1 e3
      obtain ⟨l, hl⟩ := getX hlt
      obtain ⟨u, hu, hpr⟩ := hv k l hl
      obtain ⟨b', off', cap'', e2, lt', _, _, hv'⟩ := HR.out.at (by omega)
      injection e2 with e2 _ e4
      injection e2 with e2
      injection e2 with e2 e2'
      subst e2 e2' e4
      obtain ⟨u', hu', hpr'⟩ := hv' k l hl
      have huu : u' = u := by
        have := (HBW.out.cell (p := ⟨b, off + k, none⟩) (by exact lt')).trans hu'
        rw [hu] at this
        injection this with this
        exact this.symm
      subst huu
      have HPR : Hid (MlR wr u' l) := hpr
      have HPW : Hid (MlR w u' l) := hpr'
      have HT : Hid (f.take (k + 1) = f.take k ++ [l]) := take_snoc hl
      have HIL : Hid (InM l) := HIN.out l (List.mem_of_getElem? hl)
      obtain ⟨ua, uc, rfl⟩ := hpr.shape
      clear hv hv' hl hpr hpr' hu'
      cases l with
      | nil =>
        have HF2 : Hid (flatD hs = (f.take (k + 1)).flatten) := by show _ = _; rw [HT.out, HF.out]; simp
        have z1 : ¬ ((([] : List Ml).length : Int) > 0) := by simp
        go_wp2_with fail
        go_roundw
        case rel => exact ⟨k + 1, hs, by omega, by go_num, by omega, HX'.out, HF2.out, HG.out, HKW.out⟩
        case measure => simp [intOf]; omega
      | cons x l =>
        have z1 : (((x :: l).length : Nat) : Int) > 0 := by simp
        go_wp2_with fail
        refine (headOf_any _ x l _ HPR.out).mono ?_
        rintro e w1 ⟨ha, hcc, rfl, hrd, hb1⟩
        have HX1 : Hid (HX w1 w.heap.size hs) := HX'.out.below hb1
        have HK1 : Hid (HK w.heap.size w0 w1) := HKW.out.trans (HK.of hb1)
        have HG2 : Hid (∀ y ∈ hs ++ [⟨x, ha, l.length, hcc, l⟩], Gd w y) := fun y hy => by
          rcases List.mem_append.1 hy with hy | hy
          · exact HG.out y hy
          · simp at hy
            subst hy
            exact ⟨hrd w HPW.out, HIL.out⟩
        have HF2 : Hid (flatD (hs ++ [⟨x, ha, l.length, hcc, l⟩]) = (f.take (k + 1)).flatten) := by
          show _ = _
          rw [HT.out, flatD_snoc, HF.out]
          simp [Hd.all]
        have HPU : Hid (∀ X, HX X w.heap.size hs → Calls Try.prog 69 #[.pointer (some ⟨w.heap.size, 0, none⟩), .iface 99 (.agg #[.int .i64 x.1, .int .i64 x.2, .slice ha l.length hcc])] X fun e w' => e = .returned (.tuple #[]) ∧ HX w' w.heap.size (hs ++ [⟨x, ha, l.length, hcc, l⟩]) ∧ HK w.heap.size X w') := fun X hX => hPush_any w.heap.size hs ⟨x, ha, l.length, hcc, l⟩ X hX (by omega)
        have hl2 : (hs ++ [(⟨x, ha, l.length, hcc, l⟩ : Hd)]).length ≤ k + 1 := by simp; omega
        clear hrd hb1
        generalize hs ++ [(⟨x, ha, l.length, hcc, l⟩ : Hd)] = hs2 at *
        go_wp2_with fail
        refine (HPU.out _ HX1.out).mono ?_
        rintro e w2 ⟨rfl, hx2, hk2⟩
        have HX2 : Hid (HX w2 w.heap.size hs2) := hx2
        have HK2 : Hid (HK w.heap.size w0 w2) := HK1.out.trans hk2
        clear hx2 hk2 HPU
        go_wp2_with fail
        go_roundw
        case rel => exact ⟨k + 1, hs2, by omega, by go_num, hl2, HX2.out, HF2.out, HG2.out, HK2.out⟩
        case measure => simp [intOf]; omega
    · have ek : f.take k = f := List.take_of_length_le (by omega)
      have HF2 : Hid (flatD hs = F) := by show _ = _; rw [HF.out, ek]; exact HFE.out
      clear ek HF
      have HIT : Hid (∀ X, HX X w.heap.size hs → Calls Try.prog 71 #[.iface 93 (.pointer (some ⟨w.heap.size, 0, none⟩))] X fun e w' => e = .returned (.tuple #[]) ∧ UpP X w.heap.size hs w') := fun X hX => init_any w.heap.size hs X hX (by omega)
      go_wp2_with fail
      refine (HIT.out _ HX'.out).mono ?_
      rintro e w1 ⟨rfl, hr, hx1, hp1, hf1, hk1⟩
      have HX1 : Hid (HX w1 w.heap.size hr) := hx1
      have HK1 : Hid (HK w.heap.size w0 w1) := HKW.out.trans hk1
      have HG1 : Hid (∀ y ∈ hr, Gd w y) := fun y hy => HG.out y (hp1.subset hy)
      have HM1 : Hid (Mg F [] hr) := Mg.start HF2.out hp1
      have HP1 : Hid (HpF hr 0 hr.length) := hf1
      clear hx1 hp1 hf1 hk1 HX' HG HKW HBW HF2 HIT
      go_wp2_with fail
      go_loopw [8] (fun u wr => ∃ (out : List Ml) (hs : List Hd), wr.ownsRow (w.heap.size + 1) 27 2 u out.length (out.flatMap encM) ∧ HX wr w.heap.size hs ∧ HpF hs 0 hs.length ∧ Mg F out hs ∧ (∀ x ∈ hs, Gd w x) ∧ HK w.heap.size w0 wr) (fun u _ => F.length - lenV u)
      case atStart => exact ⟨[], hr, World.ownsRow_nil _ _ _ _, HX1.out, HP1.out, HM1.out, HG1.out, HK1.out⟩
      case round =>
        obtain ⟨out, hs, ho, hX, hpf, hmg, hgd, hK⟩ := hrel
        have OW : Hid (wr.ownsRow (w.heap.size + 1) 27 2 u8 out.length (out.flatMap encM)) := ho
        have HX' : Hid (HX wr w.heap.size hs) := hX
        have HPF : Hid (HpF hs 0 hs.length) := hpf
        have HM : Hid (Mg F out hs) := hmg
        have HG : Hid (∀ x ∈ hs, Gd w x) := hgd
        have HKW : Hid (HK w.heap.size w0 wr) := hK
        have hhd := hmg.heads
        have hF5 := HFL.out
        have HLN : Hid (∀ X, HX X w.heap.size hs → Calls Try.prog 72 #[.pointer (some ⟨w.heap.size, 0, none⟩)] X fun e w' => e = .returned (.int .i64 hs.length) ∧ w' = X) := fun X hX => hLen_any w.heap.size hs X hX
        have HUL : Hid (lenV u8 = out.length) := lenV_own ho
        clear ho hX hpf hmg hgd hK
        go_wp2_with fail
        refine (HLN.out _ HX'.out).mono ?_
        rintro e wr ⟨rfl, rfl⟩
        clear HLN
        by_cases hn : 0 < hs.length
        · have z1 : (hs.length : Int) > 0 := by omega
          have HPO : Hid (∀ X, HX X w.heap.size hs → Calls Try.prog 73 #[.iface 93 (.pointer (some ⟨w.heap.size, 0, none⟩))] X (PopP X w.heap.size hs)) := fun X hX => heapPop_any w.heap.size hs X hX (by omega) hn HPF.out
          go_wp2_with fail
          refine (HPO.out _ HX'.out).mono ?_
          rintro e w3 ⟨x, hr3, rfl, hx3, hp3, hf3, hle3, hk3⟩
          have HX3 : Hid (HX w3 w.heap.size hr3) := hx3
          have HP3 : Hid ((x :: hr3).Perm hs) := hp3
          have HF3 : Hid (HpF hr3 0 hr3.length) := hf3
          have HL3 : Hid (∀ y ∈ hs, leD x y) := hle3
          have HK3 : Hid (HK w.heap.size w0 w3) := HKW.out.trans hk3
          have O3 : Hid (w3.ownsRow (w.heap.size + 1) 27 2 u8 out.length (out.flatMap encM)) := hk3.own OW.out (by decide) (by decide)
          have HGX : Hid (Gd w x) := HG.out x (hp3.subset (by simp))
          have hlr : hr3.length + 1 = hs.length := by have := hp3.length_eq; simpa using this
          have hlr1 : hr3.length ≤ 5000 := by omega
          have hs3 : w.heap.size + 1 ≤ w3.heap.size := by have := HK3.out.size; omega
          clear hx3 hp3 hf3 hle3 hk3 hlr HPO OW
          have hg1 : w3.heap.size + 1 ≤ (w3.alloc (.cells #[.int .i64 x.x.1, .int .i64 x.x.2, .slice x.a x.n x.c] 99)).heap.size := by simp
          go_wp2_with (at_builtin; refine wpList_append_newK kM rfl _ _ rfl (w.heap.size + 1) _ out rfl ((O3.out.alloc _).alloc _) (w3.heap.size + 1) x.x rfl #[.int .i64 x.x.1, .int .i64 x.x.2] rfl (0, 0) (heap_second _ _ _ _) (by simp [kM]; omega) (by unfold maxLen; omega) (by simp; omega) ?_)
          intro g c w4 hown4 hb4 hg4
          have hsz4 : ((w3.alloc (.cells #[.int .i64 x.x.1, .int .i64 x.x.2, .slice x.a x.n x.c] 99)).alloc (.cells #[.int .i64 x.x.1, .int .i64 x.x.2] 27)).heap.size = w3.heap.size + 2 := by simp
          have hB2 : Below w3.heap.size w3 ((w3.alloc (.cells #[.int .i64 x.x.1, .int .i64 x.x.2, .slice x.a x.n x.c] 99)).alloc (.cells #[.int .i64 x.x.1, .int .i64 x.x.2] 27)) := (below_alloc w3 _).alloc (by simp) _
          have hbx := heap_second2 w3 (.cells #[.int .i64 x.x.1, .int .i64 x.x.2, .slice x.a x.n x.c] 99) (.cells #[.int .i64 x.x.1, .int .i64 x.x.2] 27)
          have hbx4 : w4.heap[w3.heap.size]? = some (.cells #[.int .i64 x.x.1, .int .i64 x.x.2, .slice x.a x.n x.c] 99 (0, 0)) := (hg4.block w3.heap.size (by rw [hsz4]; omega) (fun e => by have := (O3.out.lt _ e.symm).2; omega)).trans hbx
          have k0 : w4.cell? ⟨w3.heap.size, 0, none⟩ = some (.int .i64 x.x.1) := by rw [cell_of_row _ _ _ _ _ _ hbx4]; rfl
          have k1 : w4.cell? ⟨w3.heap.size, 1, none⟩ = some (.int .i64 x.x.2) := by rw [cell_of_row _ _ _ _ _ _ hbx4]; rfl
          have k2 : w4.cell? ⟨w3.heap.size, 2, none⟩ = some (.slice x.a x.n x.c) := by rw [cell_of_row _ _ _ _ _ _ hbx4]; rfl
          have HX4 : Hid (HX w4 w.heap.size hr3) := (HX3.out.below hB2).grown (((O3.out.alloc _).alloc _)) hg4 (by decide) (by decide)
          have O4 : Hid (w4.ownsRow (w.heap.size + 1) 27 2 (.slice (some ⟨g, 0, none⟩) (out.length + 1) c) (out ++ [x.x]).length ((out ++ [x.x]).flatMap encM)) := by
            show World.ownsRow _ _ _ _ _ _ _
            rw [flat_snoc, List.length_append]; exact hown4
          have HK4 : Hid (HK w.heap.size w0 w4) := HK.grown (HK3.out.trans (HK.of hB2)) hg4 fun k hk => .inl (by have := (O3.out.lt k hk).1; have := HSZ.out; omega)
          have HW4 : Hid (Below w.heap.size w w4) := HB0.out.trans (HK4.out.below (by omega))
          clear hown4 hb4 hg4 hB2 hbx hbx4 hsz4 hg1
          have HRX : Hid (MlR w4 (.slice x.a x.n x.c) x.r) := HGX.out.1.below HW4.out (Nat.le_refl _)
          have HNL : Hid (x.n = x.r.length) := by
            obtain ⟨_, _, e, _⟩ := HGX.out.1
            injection e
          have HGI : Hid (∀ y ∈ hs, InM y.all) := fun y hy => (HG.out y hy).2
          by_cases hn0 : 0 < x.n
          · have z2 : (x.n : Int) > 0 := by omega
            obtain ⟨y, r, hyr⟩ : ∃ y r, x.r = y :: r := by
              cases hxr : x.r with
              | nil => rw [HNL.out, hxr] at hn0; simp at hn0
              | cons y r => exact ⟨y, r, rfl⟩
            have HYR : Hid (x.r = y :: r) := hyr
            rw [hyr] at HRX
            clear hyr
            go_wp2_with fail
            refine (headOf_any _ y r _ HRX.out).mono ?_
            rintro e w5 ⟨ha, hcc, rfl, hrd, hb5⟩
            have HX5 : Hid (HX w5 w.heap.size hr3) := HX4.out.below hb5
            have HK5 : Hid (HK w.heap.size w0 w5) := HK4.out.trans (HK.of hb5)
            have O5 : Hid (w5.ownsRow (w.heap.size + 1) 27 2 (.slice (some ⟨g, 0, none⟩) (out.length + 1) c) (out ++ [x.x]).length ((out ++ [x.x]).flatMap encM)) := own_below O4.out hb5 (Nat.le_refl _)
            have HGN : Hid (Gd w ⟨y, ha, r.length, hcc, r⟩) := ⟨hrd w (by have := HGX.out.1; rwa [HYR.out] at this), by
              have := HGX.out.2
              unfold Hd.all at this
              rw [HYR.out] at this
              exact (List.pairwise_cons.1 this).2⟩
            have HPU : Hid (∀ X, HX X w.heap.size hr3 → Calls Try.prog 74 #[.iface 93 (.pointer (some ⟨w.heap.size, 0, none⟩)), .iface 99 (.agg #[.int .i64 y.1, .int .i64 y.2, .slice ha r.length hcc])] X fun e w' => e = .returned (.tuple #[]) ∧ UpP X w.heap.size (hr3 ++ [⟨y, ha, r.length, hcc, r⟩]) w') := fun X hX => heapPush_any w.heap.size hr3 ⟨y, ha, r.length, hcc, r⟩ X hX hlr1 HF3.out
            have HMN : Hid (∀ hn : List Hd, hn.Perm (hr3 ++ [⟨y, ha, r.length, hcc, r⟩]) → Mg F (out ++ [x.x]) hn) := fun hn hp => HM.out.next HP3.out HL3.out HGI.out (y := ⟨y, ha, r.length, hcc, r⟩) HYR.out.symm hp
            have HGA : Hid (∀ hn : List Hd, hn.Perm (hr3 ++ [⟨y, ha, r.length, hcc, r⟩]) → ∀ z ∈ hn, Gd w z) := fun hn hp z hz => by
              rcases List.mem_append.1 (hp.subset hz) with h | h
              · exact HG.out z (HP3.out.subset (List.mem_cons_of_mem _ h))
              · simp at h; subst h; exact HGN.out
            clear hrd hb5
            generalize hr3 ++ [(⟨y, ha, r.length, hcc, r⟩ : Hd)] = hA at *
            clear k0 k1 k2
            go_wp2_with fail
            refine (HPU.out _ HX5.out).mono ?_
            rintro e w6 ⟨rfl, hn6, hx6, hp6, hf6, hk6⟩
            have HX6 : Hid (HX w6 w.heap.size hn6) := hx6
            have HF6 : Hid (HpF hn6 0 hn6.length) := hf6
            have HM6 : Hid (Mg F (out ++ [x.x]) hn6) := HMN.out hn6 hp6
            have HG6 : Hid (∀ z ∈ hn6, Gd w z) := HGA.out hn6 hp6
            have O6 : Hid (w6.ownsRow (w.heap.size + 1) 27 2 (.slice (some ⟨g, 0, none⟩) (out.length + 1) c) (out ++ [x.x]).length ((out ++ [x.x]).flatMap encM)) := hk6.own O5.out (by decide) (by decide)
            have HK6 : Hid (HK w.heap.size w0 w6) := HK5.out.trans hk6
            clear hx6 hp6 hf6 hk6 HPU
            go_wp2_with fail
            go_roundw
            case rel => exact ⟨out ++ [x.x], hn6, O6.out, HX6.out, HF6.out, HM6.out, HG6.out, HK6.out⟩
            case measure =>
              show F.length - (out.length + 1) < F.length - lenV u8
              rw [HUL.out]
              omega
          · have z2 : ¬ (x.n : Int) > 0 := by omega
            have HXE : Hid (x.r = []) := List.eq_nil_of_length_eq_zero (by rw [← HNL.out]; omega)
            have HM5 : Hid (Mg F (out ++ [x.x]) hr3) := HM.out.last HP3.out HL3.out HGI.out HXE.out
            have HG5 : Hid (∀ z ∈ hr3, Gd w z) := fun z hz => HG.out z (HP3.out.subset (List.mem_cons_of_mem _ hz))
            go_wp2_with fail
            go_roundw
            case rel => exact ⟨out ++ [x.x], hr3, O4.out, HX4.out, HF3.out, HM5.out, HG5.out, HK4.out⟩
            case measure =>
              show F.length - (out.length + 1) < F.length - lenV u8
              rw [HUL.out]
              omega
        · have z1 : ¬ (hs.length : Int) > 0 := by omega
          have e0 : hs = [] := List.eq_nil_of_length_eq_zero (by omega)
          have HO : Hid (out = sortM F) := by
            have := HM.out
            rw [e0] at this
            exact this.done
          have OE : Hid (wr.ownsRow w.heap.size 27 2 u8 (sortM F).length ((sortM F).flatMap encM)) := by
            show World.ownsRow _ _ _ _ _ _ _
            rw [← HO.out]
            exact own_lower OW.out (by omega)
          have HBE : Hid (Below w.heap.size w wr) := HB0.out.trans (HKW.out.below (by omega))
          clear e0
          obtain ⟨ua, un, uc, rfl⟩ : ∃ a n c, u8 = .slice a n c := by obtain ⟨a, c, e, _⟩ := MlR.ownd OE.out; exact ⟨_, _, _, e⟩
          go_wp2_with fail
          go_ret
          exact ⟨_, rfl, OE.out, HBE.out⟩
end Go.Proofs.Ytihghhmhgakkaaa
