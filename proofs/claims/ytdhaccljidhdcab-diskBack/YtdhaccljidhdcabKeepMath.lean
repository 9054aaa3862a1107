/-
  Plain mathematics of P3's promises: what a name reads as behind each change, and that each change keeps a disk that may be.
-/
import Derived.Test.YtdhaccljidhdcabRenameWalk
import Derived.Test.YtdhaccljidhdcabSyncWalk
import Derived.Test.YtdhaccljidhdcabCrashWalk
import Derived.Test.YtdhaccljidhdcabAppendWalk
import Derived.Test.YtdhaccljidhdcabReadWalk
namespace Go.Proofs.Ytdhaccljidhdcab

/-- The file of that name. -/
def lk : List FileL → ByteArray → Option FileL
  | [], _ => none
  | f :: r, n => if f.name = n then some f else lk r n
theorem lk_some_at {n : ByteArray} : ∀ {fs : List FileL} {k : Nat}, k < fs.length → (fs.getD k noF).name = n → (∀ j, j < k → (fs.getD j noF).name ≠ n) → lk fs n = some (fs.getD k noF)
  | [], k, h, _, _ => by simp at h
  | f :: r, 0, _, h, _ => by
    have h' : f.name = n := by simpa using h
    simp [lk, h']
  | f :: r, k + 1, h, hn, hno => by
    have h0 : f.name ≠ n := by simpa using hno 0 (by omega)
    rw [lk, if_neg h0]
    have := lk_some_at (fs := r) (k := k) (by simp at h; omega) (by simpa using hn) (fun j hj => by simpa using hno (j + 1) (by omega))
    simpa using this
theorem lk_none_of {n : ByteArray} : ∀ {fs : List FileL}, (∀ j, j < fs.length → (fs.getD j noF).name ≠ n) → lk fs n = none
  | [], _ => rfl
  | f :: r, h => by
    have h0 : f.name ≠ n := by simpa using h 0 (by simp)
    rw [lk, if_neg h0]
    exact lk_none_of (fun j hj => by simpa using h (j + 1) (by simp; omega))
theorem lk_name {n : ByteArray} : ∀ {fs : List FileL} {f : FileL}, lk fs n = some f → f.name = n
  | [], f, h => by simp [lk] at h
  | g :: r, f, h => by
    rw [lk] at h
    split at h
    · rename_i h0; injection h with h; rw [← h]; exact h0
    · exact lk_name h
/-- What is read of a disk that may be. -/
def rdF (o : Option FileL) : List Int × Int := match o with
  | some f => (f.data, 0)
  | none => ([], 7)
theorem readF_lk {fs : List FileL} {n : ByteArray} (h : mayB fs = true) : readF fs n = rdF (lk fs n) := by
  rcases atF_cases fs n with ⟨k, hk, e, hn, hno⟩ | ⟨e, hno⟩
  · rw [readF_some h e, lk_some_at hk hn hno]; rfl
  · rw [readF_none h e, lk_none_of hno]; rfl

theorem lk_set {n m : ByteArray} {f' : FileL} (hf : f'.name = n) : ∀ {fs : List FileL} {k : Nat}, k < fs.length → (fs.getD k noF).name = n → (∀ j, j < k → (fs.getD j noF).name ≠ n) → lk (fs.set k f') m = if n = m then some f' else lk fs m
  | [], k, h, _, _ => by simp at h
  | g :: r, 0, _, h, _ => by
    have h' : g.name = n := by simpa using h
    rw [List.set_cons_zero, lk, hf, lk, h']
    split <;> rfl
  | g :: r, k + 1, h, hn, hno => by
    have h0 : g.name ≠ n := by simpa using hno 0 (by omega)
    have ih := lk_set hf (m := m) (fs := r) (k := k) (by simp at h; omega) (by simpa using hn) (fun j hj => by simpa using hno (j + 1) (by omega))
    rw [List.set_cons_succ, lk, ih, lk]
    by_cases h1 : g.name = m
    · rw [if_pos h1, if_pos h1, if_neg (fun e => h0 (h1.trans e.symm))]
    · rw [if_neg h1, if_neg h1]
theorem lk_app {m : ByteArray} {f : FileL} : ∀ {fs : List FileL}, lk fs m = none → lk (fs ++ [f]) m = if f.name = m then some f else none
  | [], _ => by simp [lk]
  | g :: r, h => by
    rw [lk] at h
    by_cases h1 : g.name = m
    · rw [if_pos h1] at h; cases h
    · rw [if_neg h1] at h
      rw [List.cons_append, lk, if_neg h1]
      exact lk_app h
theorem lk_app_some {m : ByteArray} {f g : FileL} : ∀ {fs : List FileL}, lk fs m = some g → lk (fs ++ [f]) m = some g
  | [], h => by simp [lk] at h
  | x :: r, h => by
    rw [lk] at h
    rw [List.cons_append, lk]
    by_cases h1 : x.name = m
    · rw [if_pos h1] at h ⊢; exact h
    · rw [if_neg h1] at h ⊢; exact lk_app_some h
theorem lk_crash {m : ByteArray} {keep : Int} : ∀ (fs : List FileL), lk (fs.map (crash1 keep)) m = (lk fs m).map (crash1 keep)
  | [] => rfl
  | f :: r => by
    have ih := lk_crash (m := m) (keep := keep) r
    rw [List.map_cons, lk, lk, ih]
    show (if f.name = m then _ else _) = _
    split <;> rfl

/-- A disk that may be, of so many files at most, of so many bytes each. -/
structure Inv (fs : List FileL) (a b : Nat) : Prop where
  may : mayB fs = true
  good : Good fs
  len : fs.length ≤ a
  data : ∀ i, i < fs.length → (fs.getD i noF).data.length ≤ b
theorem inv_nil : Inv [] 0 0 := ⟨rfl, good_nil, by simp, fun i hi => by simp at hi⟩
theorem Inv.mono {fs : List FileL} {a b a' b' : Nat} (h : Inv fs a b) (ha : a ≤ a') (hb : b ≤ b') : Inv fs a' b' := ⟨h.may, h.good, Nat.le_trans h.len ha, fun i hi => Nat.le_trans (h.data i hi) hb⟩
/-- A file is set in its place, its name kept. -/
theorem may_set {fs : List FileL} {k : Nat} {f : FileL} (h : mayB fs = true) (hk : k < fs.length) (hn : f.name = (fs.getD k noF).name) (hf : okB f = true) : mayB (fs.set k f) = true := by
  obtain ⟨h1, h2, h3⟩ := may_iff.1 h
  have nm : ∀ i, ((fs.set k f).getD i noF).name = (fs.getD i noF).name := fun i => by
    by_cases e : i = k
    · subst e; rw [getD_set_eq hk]; exact hn
    · rw [getD_set_ne e]
  refine may_iff.2 ⟨by rw [List.length_set]; exact h1, fun i hi => ?_, fun i j hij hj => ?_⟩
  · rw [List.length_set] at hi
    by_cases e : i = k
    · subst e; rw [getD_set_eq hk]; exact hf
    · rw [getD_set_ne e]; exact h2 i hi
  · rw [List.length_set] at hj
    rw [nm, nm]; exact h3 i j hij hj
theorem may_snoc {fs : List FileL} {f : FileL} (h : mayB fs = true) (hl : fs.length < 40) (hn : ∀ j, j < fs.length → (fs.getD j noF).name ≠ f.name) (hf : okB f = true) : mayB (fs ++ [f]) = true := by
  obtain ⟨h1, h2, h3⟩ := may_iff.1 h
  refine may_iff.2 ⟨by simp; omega, fun i hi => ?_, fun i j hij hj => ?_⟩
  · by_cases hlt : i < fs.length
    · rw [getD_app_left hlt]; exact h2 i hlt
    · have e : i = fs.length := by simp at hi; omega
      subst e; rw [getD_app_last]; exact hf
  · by_cases hlt : j < fs.length
    · rw [getD_app_left hlt, getD_app_left (by omega)]; exact h3 i j hij hlt
    · have e : j = fs.length := by simp at hj; omega
      subst e; rw [getD_app_last, getD_app_left (by omega)]; exact hn i (by omega)

theorem getD_le {fs : List FileL} {a b : Nat} (h : Inv fs a b) {k : Nat} (hk : k < fs.length) : (fs.getD k noF).data.length ≤ b := h.data k hk
/-- A file is set in its place: what stays. -/
theorem Inv.set {fs : List FileL} {a b b' k : Nat} {f : FileL} (h : Inv fs a b) (hb : b ≤ b') (hk : k < fs.length) (hn : f.name = (fs.getD k noF).name) (hf : okB f = true) (hg : GoodF f) (hd : f.data.length ≤ b') : Inv (fs.set k f) a b' := by
  refine ⟨may_set h.may hk hn hf, good_set h.good (fun _ => hg), by rw [List.length_set]; exact h.len, fun i hi => ?_⟩
  rw [List.length_set] at hi
  by_cases e : i = k
  · subst e; rw [getD_set_eq hk]; exact hd
  · rw [getD_set_ne e]; exact Nat.le_trans (h.data i hi) hb

theorem sync_no {fs : List FileL} {n : ByteArray} (h : lk fs n = none) : syncF fs n = ([], 7) := by
  rcases atF_cases fs n with ⟨k, hk, e, hn, hno⟩ | ⟨e, _⟩
  · rw [lk_some_at hk hn hno] at h; cases h
  · exact syncF_none e
theorem sync_does {fs : List FileL} {n : ByteArray} {f : FileL} {a b : Nat} (hi : Inv fs a b) (h : lk fs n = some f) :
    ∃ fs', syncF fs n = (fs', 0) ∧ Inv fs' a b ∧ fs'.length = fs.length ∧ 0 < fs'.length ∧ ∀ m, lk fs' m = if n = m then some { f with synced := (f.data.length : Int) } else lk fs m := by
  rcases atF_cases fs n with ⟨k, hk, e, hn, hno⟩ | ⟨e, hno⟩
  · rw [lk_some_at hk hn hno] at h
    injection h with h
    obtain ⟨_, h2, _⟩ := may_iff.1 hi.may
    obtain ⟨o1, o2, o3, o4⟩ := ok_iff.1 (h2 k hk)
    obtain ⟨g1, g2, g3, g4, g5⟩ := hi.good k hk
    refine ⟨_, syncF_some e, hi.set (Nat.le_refl _) hk rfl (ok_good o1 o2 (by simp) (by simp)) ⟨g1, (show (-9223372036854775808 : Int) ≤ ((fs.getD k noF).data.length : Int) by omega), (show ((fs.getD k noF).data.length : Int) ≤ 9223372036854775807 by omega), g4, g5⟩ (hi.data k hk), by rw [List.length_set], by rw [List.length_set]; omega, fun m => ?_⟩
    rw [lk_set (n := n) (by exact hn) hk hn hno, ← h]
  · rw [lk_none_of hno] at h; cases h
/-- What a name had: its bytes, its mark. -/
def hadD (o : Option FileL) : List Int := match o with | some f => f.data | none => []
def hadS (o : Option FileL) : Int := match o with | some f => f.synced | none => 0
theorem append_does {fs : List FileL} {n : ByteArray} {l : List Int} {a b : Nat} (hi : Inv fs a b) (hn0 : nmB n = true) (hns : n.size ≤ maxLen) (hl : ∀ x ∈ l, 0 ≤ x ∧ x ≤ 255) (ha : a < 40) (hb : b + l.length ≤ 100000) :
    ∃ fs', appendF fs n l = (fs', 0) ∧ Inv fs' (a + 1) (b + l.length) ∧ 0 < fs'.length ∧ ∀ m, lk fs' m = if n = m then some ⟨n, hadD (lk fs n) ++ l, hadS (lk fs n)⟩ else lk fs m := by
  have hlen := hi.len
  rcases atF_cases fs n with ⟨k, hk, e, hn, hno⟩ | ⟨e, hno⟩
  · obtain ⟨_, h2, _⟩ := may_iff.1 hi.may
    obtain ⟨o1, o2, o3, o4⟩ := ok_iff.1 (h2 k hk)
    obtain ⟨g1, g2, g3, g4, g5⟩ := hi.good k hk
    have hd := hi.data k hk
    have hput : putF fs k l = (fs.set k { fs.getD k noF with data := (fs.getD k noF).data ++ l }, 0) := putF_ok (by omega)
    have hle : ((fs.getD k noF).data ++ l).length = (fs.getD k noF).data.length + l.length := List.length_append
    refine ⟨_, (appendF_some hn0 e).trans hput, (hi.set (f := { fs.getD k noF with data := (fs.getD k noF).data ++ l }) (b' := b + l.length) (by omega) hk rfl (ok_good o1 (show ((fs.getD k noF).data ++ l).length ≤ 100000 by omega) o3 (show (fs.getD k noF).synced ≤ (((fs.getD k noF).data ++ l).length : Int) by omega)) ⟨fun x hx => ?_, g2, g3, g4, (show ((fs.getD k noF).data ++ l).length ≤ 140737488351232 by omega)⟩ (show ((fs.getD k noF).data ++ l).length ≤ b + l.length by omega)).mono (by omega) (Nat.le_refl _), by rw [List.length_set]; omega, fun m => ?_⟩
    · rcases List.mem_append.1 hx with h9 | h9
      · exact g1 x h9
      · exact hl x h9
    · rw [lk_set (n := n) (by exact hn) hk hn hno, lk_some_at hk hn hno]
      simp only [hadD, hadS, hn]
  · have e0 := lk_none_of hno
    have hnew : appendF fs n l = putF (fs ++ [⟨n, [], 0⟩]) fs.length l := appendF_new hn0 e (by omega)
    have hg9 : (fs ++ [(⟨n, [], 0⟩ : FileL)]).getD fs.length noF = ⟨n, [], 0⟩ := getD_app_last
    have hput : putF (fs ++ [⟨n, [], 0⟩]) fs.length l = ((fs ++ [(⟨n, [], 0⟩ : FileL)]).set fs.length ⟨n, l, 0⟩, 0) := by
      rw [putF_ok (by rw [hg9]; show ¬ 100000 < 0 + l.length; omega), hg9]; rfl
    have hI : Inv (fs ++ [(⟨n, [], 0⟩ : FileL)]) (a + 1) b := by
      refine ⟨may_snoc hi.may (by omega) hno (ok_good hn0 (by simp) (by simp) (by simp)), good_snoc hi.good ⟨by simp, (show (-9223372036854775808 : Int) ≤ 0 by decide), (show (0 : Int) ≤ 9223372036854775807 by decide), hns, by simp⟩, by simp; omega, fun i hi9 => ?_⟩
      by_cases hlt : i < fs.length
      · rw [getD_app_left hlt]; exact hi.data i hlt
      · have ei : i = fs.length := by simp at hi9; omega
        subst ei; rw [hg9]; simp
    have hk9 : fs.length < (fs ++ [(⟨n, [], 0⟩ : FileL)]).length := by simp
    refine ⟨_, hnew.trans hput, hI.set (by omega) hk9 (by rw [hg9]) (ok_good hn0 (show l.length ≤ 100000 by omega) (by simp) (by simp)) ⟨hl, (show (-9223372036854775808 : Int) ≤ 0 by decide), (show (0 : Int) ≤ 9223372036854775807 by decide), hns, (show l.length ≤ 140737488351232 by omega)⟩ (show l.length ≤ b + l.length by omega), by simp, fun m => ?_⟩
    rw [lk_set (n := n) rfl hk9 (by rw [hg9]) (fun j hj => by rw [getD_app_left hj]; exact hno j hj), e0]
    by_cases hm : n = m
    · rw [if_pos hm, if_pos hm]; rfl
    · rw [if_neg hm, if_neg hm]
      cases h9 : lk fs m with
      | none => rw [lk_app h9, if_neg hm]
      | some g => exact lk_app_some h9
theorem end_bounds {keep : Int} {f : FileL} (hk : 0 ≤ keep) (h : okB f = true) : f.synced ≤ endF keep f ∧ 0 ≤ endF keep f ∧ endF keep f ≤ f.data.length := by
  obtain ⟨_, _, h3, h4⟩ := ok_iff.1 h
  unfold endF
  omega
theorem crash_does {fs : List FileL} {keep : Int} {a b : Nat} (hi : Inv fs a b) (hk : 0 ≤ keep) :
    ∃ fs', crashF fs keep = (fs', 0) ∧ Inv fs' a b ∧ fs'.length = fs.length ∧ ∀ m, lk fs' m = (lk fs m).map (crash1 keep) := by
  have e : crashF fs keep = (fs.map (crash1 keep), 0) := crashF_pos (by omega)
  have hg : Good (fs.map (crash1 keep)) := by have := good_crash (keep := keep) hi.good; rw [e] at this; exact this
  obtain ⟨h1, h2, h3⟩ := may_iff.1 hi.may
  have hl : (fs.map (crash1 keep)).length = fs.length := List.length_map _
  refine ⟨_, e, ⟨may_iff.2 ⟨by rw [hl]; exact h1, fun i hi9 => ?_, fun i j hij hj => ?_⟩, hg, by rw [hl]; exact hi.len, fun i hi9 => ?_⟩, hl, fun m => lk_crash fs⟩
  · rw [hl] at hi9
    rw [getD_map_crash hi9]
    obtain ⟨o1, o2, o3, o4⟩ := ok_iff.1 (h2 i hi9)
    obtain ⟨b1, b2, b3⟩ := end_bounds hk (h2 i hi9)
    refine ok_good o1 ?_ b2 ?_
    · show ((fs.getD i noF).data.take _).length ≤ _
      rw [List.length_take]; omega
    · show endF keep (fs.getD i noF) ≤ (((fs.getD i noF).data.take (endF keep (fs.getD i noF)).toNat).length : Int)
      rw [List.length_take]; omega
  · rw [hl] at hj
    rw [getD_map_crash hj, getD_map_crash (by omega)]
    exact h3 i j hij hj
  · rw [hl] at hi9
    rw [getD_map_crash hi9]
    show ((fs.getD i noF).data.take _).length ≤ _
    have := hi.data i hi9
    rw [List.length_take]; omega
theorem Inv.erase {fs : List FileL} {a b k : Nat} (h : Inv fs a b) (hk : k < fs.length) : Inv (fs.eraseIdx k) a b := by
  obtain ⟨h1, h2, h3⟩ := may_iff.1 h.may
  have hlen := h.len
  have hl : (fs.eraseIdx k).length = fs.length - 1 := List.length_eraseIdx_of_lt hk
  refine ⟨may_iff.2 ⟨by omega, fun i hi => ?_, fun i j hij hj => ?_⟩, good_erase h.good hk, by omega, fun i hi => ?_⟩
  · rw [getD_erase]; split
    · exact h2 _ (by omega)
    · exact h2 _ (by omega)
  · rw [getD_erase, getD_erase]
    split <;> split
    · exact h3 _ _ (by omega) (by omega)
    · exact h3 _ _ (by omega) (by omega)
    · omega
    · exact h3 _ _ (by omega) (by omega)
  · rw [getD_erase]; split
    · exact h.data _ (by omega)
    · exact h.data _ (by omega)
theorem remove_keeps {fs : List FileL} {n : ByteArray} {a b : Nat} (hi : Inv fs a b) : (removeF fs n).2 = 0 → Inv (removeF fs n).1 a b := by
  rcases atF_cases fs n with ⟨k, hk, e, hn, hno⟩ | ⟨e, hno⟩
  · rw [removeF_some e]; intro _; exact hi.erase hk
  · rw [removeF_none e]; intro h; simp at h
theorem sync_keeps {fs : List FileL} {n : ByteArray} {a b : Nat} (hi : Inv fs a b) : (syncF fs n).2 = 0 → Inv (syncF fs n).1 a b := by
  cases h : lk fs n with
  | none => rw [sync_no h]; intro h; simp at h
  | some f =>
    obtain ⟨fs', e, h1, _⟩ := sync_does hi h
    rw [e]; intro _; exact h1

theorem lk_of {L : List FileL} {m : ByteArray} {i : Nat} (h : mayB L = true) (hi : i < L.length) (hn : (L.getD i noF).name = m) : lk L m = some (L.getD i noF) :=
  lk_some_at hi hn (fun j hj e => (may_iff.1 h).2.2 j i hj hi (e.trans hn.symm))
theorem lk_cases {L : List FileL} (m : ByteArray) : (∃ i, i < L.length ∧ (L.getD i noF).name = m ∧ lk L m = some (L.getD i noF)) ∨ ((∀ j, j < L.length → (L.getD j noF).name ≠ m) ∧ lk L m = none) := by
  rcases atF_cases L m with ⟨k, hk, _, hn, hno⟩ | ⟨_, hno⟩
  · exact .inl ⟨k, hk, hn, lk_some_at hk hn hno⟩
  · exact .inr ⟨hno, lk_none_of hno⟩
theorem dist_ne {fs : List FileL} (h : mayB fs = true) {i j : Nat} (hi : i < fs.length) (hj : j < fs.length) (hne : i ≠ j) : (fs.getD i noF).name ≠ (fs.getD j noF).name := by
  have hd := (may_iff.1 h).2.2
  rcases Nat.lt_or_gt_of_ne hne with h1 | h1
  · exact hd i j h1 hj
  · exact fun e => hd j i h1 hi e.symm

/-- A file gets a name that no other has. -/
theorem Inv.setName {fs : List FileL} {a b k : Nat} {to : ByteArray} (h : Inv fs a b) (hk : k < fs.length) (ht : nmB to = true) (hts : to.size ≤ maxLen) (hno : ∀ i, i < fs.length → i ≠ k → (fs.getD i noF).name ≠ to) : Inv (fs.set k { fs.getD k noF with name := to }) a b := by
  obtain ⟨h1, h2, h3⟩ := may_iff.1 h.may
  obtain ⟨o1, o2, o3, o4⟩ := ok_iff.1 (h2 k hk)
  obtain ⟨g1, g2, g3, g4, g5⟩ := h.good k hk
  refine ⟨may_iff.2 ⟨by rw [List.length_set]; exact h1, fun i hi => ?_, fun i j hij hj => ?_⟩, good_set h.good (fun _ => ⟨g1, g2, g3, hts, g5⟩), by rw [List.length_set]; exact h.len, fun i hi => ?_⟩
  · rw [List.length_set] at hi
    by_cases e : i = k
    · subst e; rw [getD_set_eq hk]; exact ok_good ht o2 o3 o4
    · rw [getD_set_ne e]; exact h2 i hi
  · rw [List.length_set] at hj
    by_cases e : i = k
    · subst e
      rw [getD_set_eq hk, getD_set_ne (by omega)]
      exact fun e => hno j hj (by omega) e.symm
    · rw [getD_set_ne e]
      by_cases e2 : j = k
      · subst e2; rw [getD_set_eq hk]; exact hno i (by omega) e
      · rw [getD_set_ne e2]; exact h3 i j hij hj
  · rw [List.length_set] at hi
    by_cases e : i = k
    · subst e; rw [getD_set_eq hk]; exact h.data i hk
    · rw [getD_set_ne e]; exact h.data i hi
/-- The place of a file behind the taking out of another. -/
def back (j i : Nat) : Nat := if i < j then i else i - 1
theorem getD_back {fs : List FileL} {j i : Nat} (h : i ≠ j) : (fs.eraseIdx j).getD (back j i) noF = fs.getD i noF := by
  rw [getD_erase, back]
  by_cases h1 : i < j
  · rw [if_pos h1, if_pos h1]
  · rw [if_neg h1, if_neg (by omega), Nat.sub_add_cancel (by omega)]
theorem back_lt {fs : List FileL} {j i : Nat} (h : i ≠ j) (hi : i < fs.length) (hj : j < fs.length) : back j i < (fs.eraseIdx j).length := by
  rw [List.length_eraseIdx_of_lt hj, back]; split <;> omega
theorem lk_erase {fs : List FileL} {j : Nat} {a b : Nat} (h : Inv fs a b) (hj : j < fs.length) (m : ByteArray) : lk (fs.eraseIdx j) m = if (fs.getD j noF).name = m then none else lk fs m := by
  have hE := (h.erase hj).may
  by_cases e : (fs.getD j noF).name = m
  · rw [if_pos e]
    refine lk_none_of (fun i hi => ?_)
    rw [List.length_eraseIdx_of_lt hj] at hi
    rw [getD_erase, ← e]
    split
    · exact dist_ne h.may (by omega) hj (by omega)
    · exact dist_ne h.may (by omega) hj (by omega)
  · rw [if_neg e]
    rcases lk_cases (L := fs) m with ⟨i, hi, hn, e2⟩ | ⟨hno, e2⟩
    · have hij : i ≠ j := fun e9 => e (by rw [← e9]; exact hn)
      rw [e2, ← getD_back (fs := fs) hij]
      exact lk_of hE (back_lt hij hi hj) (by rw [getD_back hij]; exact hn)
    · rw [e2]
      refine lk_none_of (fun i hi => ?_)
      rw [List.length_eraseIdx_of_lt hj] at hi
      rw [getD_erase]
      split
      · exact hno _ (by omega)
      · exact hno _ (by omega)
theorem lk_setName {fs : List FileL} {k : Nat} {to : ByteArray} {a b : Nat} (h : Inv fs a b) (hk : k < fs.length) (hS : mayB (fs.set k { fs.getD k noF with name := to }) = true) (m : ByteArray) :
    lk (fs.set k { fs.getD k noF with name := to }) m = if to = m then some { fs.getD k noF with name := to } else if (fs.getD k noF).name = m then none else lk fs m := by
  by_cases e : to = m
  · rw [if_pos e]
    have := lk_of (m := m) hS (i := k) (by rw [List.length_set]; exact hk) (by rw [getD_set_eq hk]; exact e)
    rw [this, getD_set_eq hk]
  · rw [if_neg e]
    by_cases e1 : (fs.getD k noF).name = m
    · rw [if_pos e1]
      refine lk_none_of (fun i hi => ?_)
      rw [List.length_set] at hi
      by_cases e2 : i = k
      · subst e2; rw [getD_set_eq hk]; exact e
      · rw [getD_set_ne e2, ← e1]; exact dist_ne h.may hi hk e2
    · rw [if_neg e1]
      rcases lk_cases (L := fs) m with ⟨i, hi, hn, e2⟩ | ⟨hno, e2⟩
      · have hik : i ≠ k := fun e9 => e1 (by rw [← e9]; exact hn)
        rw [e2, ← getD_set_ne (f := { fs.getD k noF with name := to }) hik]
        exact lk_of hS (by rw [List.length_set]; exact hi) (by rw [getD_set_ne hik]; exact hn)
      · rw [e2]
        refine lk_none_of (fun i hi => ?_)
        rw [List.length_set] at hi
        by_cases e2 : i = k
        · subst e2; rw [getD_set_eq hk]; exact e
        · rw [getD_set_ne e2]; exact hno i hi
/-- Set, then take out: the same the other way round. -/
theorem set_erase {f : FileL} : ∀ {fs : List FileL} {k j : Nat}, k ≠ j → (fs.set k f).eraseIdx j = (fs.eraseIdx j).set (back j k) f
  | [], k, j, _ => by simp
  | x :: r, 0, 0, h => absurd rfl h
  | x :: r, 0, j + 1, _ => by simp [back]
  | x :: r, k + 1, 0, _ => by simp [back]
  | x :: r, k + 1, j + 1, h => by
    have ih := set_erase (f := f) (fs := r) (k := k) (j := j) (by omega)
    have e : back (j + 1) (k + 1) = back j k + 1 := by unfold back; split <;> split <;> omega
    rw [List.set_cons_succ, List.eraseIdx_cons_succ, List.eraseIdx_cons_succ, ih, e, List.set_cons_succ]
theorem rename_no {fs : List FileL} {n to : ByteArray} (ht : nmB to = true) (h : lk fs n = none) : renameF fs n to = ([], 7) := by
  rcases atF_cases fs n with ⟨k, hk, e, hn, hno⟩ | ⟨e, _⟩
  · rw [lk_some_at hk hn hno] at h; cases h
  · exact renameF_none ht e
theorem rename_does {fs : List FileL} {n to : ByteArray} {f : FileL} {a b : Nat} (hi : Inv fs a b) (ht : nmB to = true) (hts : to.size ≤ maxLen) (h : lk fs n = some f) :
    ∃ fs', renameF fs n to = (fs', 0) ∧ Inv fs' a b ∧ ∀ m, lk fs' m = if to = m then some { f with name := to } else if n = m then none else lk fs m := by
  rcases atF_cases fs n with ⟨k, hk, e, hn, hno⟩ | ⟨e, hno⟩
  · rw [lk_some_at hk hn hno] at h
    injection h with h
    subst h
    rcases atF_cases fs to with ⟨j, hj, e2, hjt, _⟩ | ⟨e2, hno2⟩
    · by_cases hjk : j = k
      · subst hjk
        have em : moved fs j to = fs.set j { fs.getD j noF with name := to } := by unfold moved; rw [if_neg (by rw [e2]; omega)]
        have hI := hi.setName hk ht hts (fun i hi9 hne => by rw [← hjt]; exact dist_ne hi.may hi9 hk hne)
        refine ⟨_, (renameF_some ht e).trans (by rw [em]), hI, fun m => ?_⟩
        rw [lk_setName hi hk hI.may, hn]
      · have em : moved fs k to = (fs.eraseIdx j).set (back j k) { fs.getD k noF with name := to } := by
          unfold moved
          rw [if_pos (by rw [e2]; omega), e2, Int.toNat_natCast, set_erase (fun e9 => hjk e9.symm)]
        have hE := hi.erase hj
        have hkj : k ≠ j := fun e9 => hjk e9.symm
        have hb := back_lt hkj hk hj
        have hgb : (fs.eraseIdx j).getD (back j k) noF = fs.getD k noF := getD_back hkj
        have hnoE : ∀ i, i < (fs.eraseIdx j).length → i ≠ back j k → ((fs.eraseIdx j).getD i noF).name ≠ to := fun i hi9 _ => by
          rw [List.length_eraseIdx_of_lt hj] at hi9
          rw [getD_erase, ← hjt]
          split
          · exact dist_ne hi.may (by omega) hj (by omega)
          · exact dist_ne hi.may (by omega) hj (by omega)
        have hI := hE.setName hb ht hts hnoE
        rw [hgb] at hI
        refine ⟨_, (renameF_some ht e).trans (by rw [em]), hI, fun m => ?_⟩
        have h9 := lk_setName (to := to) hE hb (by rw [hgb]; exact hI.may) m
        rw [hgb] at h9
        rw [h9, hn, lk_erase hi hj, hjt]
        by_cases e5 : to = m
        · rw [if_pos e5, if_pos e5]
        · rw [if_neg e5, if_neg e5, if_neg e5]
    · have em : moved fs k to = fs.set k { fs.getD k noF with name := to } := by unfold moved; rw [if_neg (by rw [e2]; omega)]
      have hI := hi.setName hk ht hts (fun i hi9 _ => hno2 i hi9)
      refine ⟨_, (renameF_some ht e).trans (by rw [em]), hI, fun m => ?_⟩
      rw [lk_setName hi hk hI.may, hn]
  · rw [lk_none_of hno] at h; cases h
theorem rename_keeps {fs : List FileL} {n to : ByteArray} {a b : Nat} (hi : Inv fs a b) (ht : nmB to = true) (hts : to.size ≤ maxLen) : (renameF fs n to).2 = 0 → Inv (renameF fs n to).1 a b := by
  cases h : lk fs n with
  | none => rw [rename_no ht h]; intro h; simp at h
  | some f =>
    obtain ⟨fs', e, h1, _⟩ := rename_does hi ht hts h
    rw [e]; intro _; exact h1
end Go.Proofs.Ytdhaccljidhdcab
