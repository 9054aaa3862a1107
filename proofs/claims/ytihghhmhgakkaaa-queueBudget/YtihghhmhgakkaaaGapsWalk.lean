/-
  Contract of varint.Gaps: it returns the bytes and the error that P1.5 names; nothing that was there is written.
-/
import Derived.Test.YtihghhmhgakkaaaCheckList
namespace Go.Proofs.Ytihghhmhgakkaaa
set_option maxRecDepth 100000
open Go.ChangeShapes Go.WideShapes Go.ChangeAt Go.RowKit

def prev (l : List Int) (k : Nat) : Int := if k = 0 then 0 else l.getD (k - 1) 0
/-- The bytes of the gaps of the first k numbers. -/
def gapsTo (l : List Int) : Nat → List Int
  | 0 => []
  | k + 1 => gapsTo l k ++ put (l.getD k 0 - prev l k)
/-- P1.5 -/
def gapsF (l : List Int) (c : Int) : List Int := if c = 0 then put l.length ++ gapsTo l l.length else []

theorem gapsTo_len (l : List Int) : ∀ k, (gapsTo l k).length ≤ 10 * k
  | 0 => by simp [gapsTo]
  | k + 1 => by
    have := gapsTo_len l k
    have := put_len (l.getD k 0 - prev l k)
    simp only [gapsTo, List.length_append]; omega
theorem prev_in {l : List Int} (ha : AllIn l) (hr : Rises l) {k : Nat} (hk : k < l.length) : 0 ≤ prev l k ∧ prev l k ≤ l.getD k 0 ∧ l.getD k 0 ≤ 1152921504606846976 := by
  have h1 := ha k hk
  unfold prev
  by_cases h : k = 0
  · rw [if_pos h]; omega
  · rw [if_neg h]
    obtain ⟨j, rfl⟩ : ∃ j, k = j + 1 := ⟨k - 1, by omega⟩
    have h2 := ha j (by omega)
    have h3 := hr j hk
    rw [show j + 1 - 1 = j from by omega]
    omega
theorem gapsTo_bytes {l : List Int} (ha : AllIn l) (hr : Rises l) : ∀ k, k ≤ l.length → ∀ x ∈ gapsTo l k, 0 ≤ x ∧ x ≤ 255
  | 0, _, x, hx => by simp [gapsTo] at hx
  | k + 1, hk, x, hx => by
    have h := prev_in ha hr (show k < l.length by omega)
    simp only [gapsTo, List.mem_append] at hx
    rcases hx with hx | hx
    · exact gapsTo_bytes ha hr k (by omega) x hx
    · exact put_bytes (by omega) (by omega) x hx
theorem gapsF_bytes {l : List Int} {c : Int} (h : Named l c) : ∀ x ∈ gapsF l c, 0 ≤ x ∧ x ≤ 255 := by
  intro x hx
  unfold gapsF at hx
  by_cases hc : c = 0
  · rw [if_pos hc] at hx
    rcases h with h | h | h | ⟨_, hl, ha, hr⟩
    · omega
    · omega
    · omega
    · rcases List.mem_append.1 hx with hx | hx
      · exact put_bytes (by omega) (by omega) x hx
      · exact gapsTo_bytes ha hr _ (Nat.le_refl _) x hx
  · rw [if_neg hc] at hx; simp at hx
theorem Named.one {l : List Int} {c d : Int} (h : Named l c) (k : Named l d) : c = d := by
  rcases h with h | h | h | h <;> rcases k with k | k | k | k <;> first | omega | (exact absurd k.2.2.1 h.2.2) | (exact absurd h.2.2.1 k.2.2) | (exact absurd k.2.2.2 h.2.2.2) | (exact absurd h.2.2.2 k.2.2.2)

theorem own_mono {w : World} {b b' : Nat} {e : TypeId} {size n : Nat} {v : Value} {xs : List Value} (h : w.ownsRow b e size v n xs) (hb : b' ≤ b) : w.ownsRow b' e size v n xs := by
  refine ⟨h.1, ?_⟩
  rcases h.2 with hn | ⟨g, cap, cur, hv, hg, rest⟩
  · exact .inl hn
  · exact .inr ⟨g, cap, cur, hv, by omega, rest⟩

set_option maxHeartbeats 800000 in
theorem gaps_row (a : Option Addr) (cap : Nat) (xs : List Int) (w : World) (h : Reads .i64 w (.slice a xs.length cap) xs) :
    Calls Try.prog 42 #[.slice a xs.length cap] w fun e w' =>
      ∃ c v', e = .returned (.tuple #[v', .int .i64 c]) ∧ Named xs c ∧ w'.ownsRow w.heap.size 5 1 v' (gapsF xs c).length ((gapsF xs c).map (Value.int .u8)) ∧ Below w.heap.size w w' := by
  have HR : Hid (Reads .i64 w (.slice a xs.length cap) xs) := h
  clear h
  go_enter Try.func42, Try.ntmps42
  go_wp2_with fail
  refine (checkList_any _ xs _ HR.out).mono ?_
  rintro e w1 ⟨c, rfl, hnm, hb1⟩
  have HN : Hid (Named xs c) := hnm
  clear hnm
  by_cases hc : c = 0
  · subst hc
    have hs1 := hb1.size
    have hl : xs.length ≤ 2000 := by rcases HN.out with h | h | h | h <;> omega
    have HA : Hid (AllIn xs ∧ Rises xs) := by rcases HN.out with h | h | h | ⟨_, _, h⟩ <;> first | omega | exact h
    have HF : Hid (gapsF xs 0 = put xs.length ++ gapsTo xs xs.length) := rfl
    go_wp2_with fail
    refine (put_any _ _ (by omega) (by omega)).mono ?_
    rintro e w2 ⟨v2, rfl, hown2, hb2⟩
    have HO : Hid (w2.ownsRow w.heap.size 5 1 v2 (put xs.length).length ((put xs.length).map (Value.int .u8))) := own_mono hown2 hs1
    have hb3 : Below w.heap.size w w2 := hb1.trans (hb2.mono hs1)
    clear hown2 hb1 hb2 hs1
    go_wp2_with fail
    go_loopw [5, 6, 19] (fun v p i wr => ∃ k : Nat, k ≤ xs.length ∧ i = .int .i64 k ∧ p = .int .i64 (prev xs k) ∧ wr.ownsRow w.heap.size 5 1 v (put xs.length ++ gapsTo xs k).length ((put xs.length ++ gapsTo xs k).map (Value.int .u8)) ∧ Below w.heap.size w wr) (fun _ _ i _ => xs.length - (intOf i).toNat)
    case atStart => exact ⟨0, by omega, rfl, rfl, by simpa [gapsTo] using HO.out, hb3⟩
    case round =>
      obtain ⟨k, hk, rfl, rfl, hown, hbel⟩ := hrel
      have hsz := hbel.size
      have HW : Hid (wr.ownsRow w.heap.size 5 1 _ (put xs.length ++ gapsTo xs k).length ((put xs.length ++ gapsTo xs k).map (Value.int .u8))) := hown
      clear hown
      by_cases hlt : k < xs.length
      · obtain ⟨b, off, cap', hv, _, _, hb, hcell⟩ := HR.out.plain (by omega)
        injection hv with hv1 hv2 hv3
        subst hv1 hv3
        have d1 : wr.cell? ⟨b, off + k, none⟩ = some (.int .i64 (xs.getD k 0)) := (hbel.cell (by exact hb)).trans (hcell k hlt)
        have hp := prev_in HA.out.1 HA.out.2 hlt
        have HG : Hid (gapsTo xs (k + 1) = gapsTo xs k ++ put (xs.getD k 0 - prev xs k)) := rfl
        have HP : Hid (prev xs (k + 1) = xs.getD k 0) := by show prev xs (k + 1) = _; simp [prev]
        have hlen : (put xs.length ++ gapsTo xs k).length + 10 ≤ 140737488355328 := by
          have := put_len xs.length
          have := gapsTo_len xs k
          rw [List.length_append]; omega
        clear hcell HN HO hv2
        generalize xs.getD k 0 = x at *
        generalize prev xs k = p at *
        have HL : Hid ((put xs.length ++ gapsTo xs k).length + 10 ≤ 140737488355328) := hlen
        clear hlen
        go_wp2_with fail
        refine (appendNumber_any w.heap.size _ _ (x - p) _ (by omega) (by omega) hsz HL.out HW.out).mono ?_
        rintro e w4 ⟨v4, rfl, hown4, hb4⟩
        have HW4 : Hid (w4.ownsRow w.heap.size 5 1 v4 (put xs.length ++ gapsTo xs (k + 1)).length ((put xs.length ++ gapsTo xs (k + 1)).map (Value.int .u8))) := by rw [HG.out, ← List.append_assoc]; exact hown4
        have hb5 := hbel.trans hb4
        have d2 : w4.cell? ⟨b, off + k, none⟩ = some (.int .i64 x) := (hb4.cell (by exact hb)).trans d1
        clear hown4 hbel hb4 d1 HW
        go_wp2_with fail
        go_roundw
        case rel => exact ⟨k + 1, by omega, by go_num, by rw [HP.out], HW4.out, hb5⟩
        case measure => simp [intOf]; omega
      · have hkl : k = xs.length := by omega
        subst hkl
        go_wp2_with fail
        go_ret2
        exact ⟨0, _, rfl, HN.out, by rw [HF.out]; exact HW.out, hbel⟩
  · have hc' : (c != 0) = true := by simp [hc]
    have HF : Hid (gapsF xs c = []) := by show gapsF xs c = []; unfold gapsF; rw [if_neg hc]
    clear hc
    go_wp2_with fail
    go_ret2
    exact ⟨c, _, rfl, HN.out, by rw [HF.out]; exact World.ownsRow_nil _ _ _ _, hb1⟩

theorem gaps_any (v : Value) (xs : List Int) (w : World) (h : Reads .i64 w v xs) :
    Calls Try.prog 42 #[v] w fun e w' =>
      ∃ c v', e = .returned (.tuple #[v', .int .i64 c]) ∧ Named xs c ∧ w'.ownsRow w.heap.size 5 1 v' (gapsF xs c).length ((gapsF xs c).map (Value.int .u8)) ∧ Below w.heap.size w w' := by
  have h2 := h
  obtain ⟨a, cap, rfl, _⟩ := h
  exact gaps_row a cap xs w h2
end Go.Proofs.Ytihghhmhgakkaaa
