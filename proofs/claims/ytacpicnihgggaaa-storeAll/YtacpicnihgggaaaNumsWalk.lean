/-
  append of one new element, and where the row lies then; contract of store.appendNumbers.
-/
import Derived.Test.YtacpicnihgggaaaStoreLists
import Derived.Test.YtacpicnihgggaaaBase
import Derived.Test.YtacpicnihgggaaaPutWalk
namespace Go.Proofs.Ytacpicnihgggaaa
set_option maxRecDepth 100000
open Go.ChangeShapes Go.WideShapes Go.ChangeAt Go.RowKit

/-- What an append of one new element comes to, and where the row lies. -/
theorem run_append_newL {α : Type} (K : ElK α) {w : World} (ty : TypeId) (base : Nat) (v : Value) (xs : List α) (hown : w.ownsRow base K.e K.k v xs.length (xs.flatMap K.enc))
    (B : Nat) (x : α) (cs : Array Value) (hcs : cs.toList = K.enc x) (fr : Nat × Nat) (hblk : w.heap[B]? = some (.cells cs K.e fr)) (hlen : (xs.length + 1) * K.bytes ≤ 140737488355328) (hmax : xs.length + 1 ≤ maxLen) (hbase : base ≤ w.heap.size) :
    ∃ g c w', (Builtin.append_ #[K.t, K.t] ty #[v, .slice (some ⟨B, 0, none⟩) 1 1]).run Try.prog w = .ok (.slice (some ⟨g, 0, none⟩) (xs.length + 1) c) w' ∧
      w'.ownsRow base K.e K.k (.slice (some ⟨g, 0, none⟩) (xs.length + 1) c) (xs ++ [x]).length ((xs ++ [x]).flatMap K.enc) ∧ w.grownBy w' v.ownBlock ∧ (v.ownBlock = some g ∨ g = w.heap.size) := by
  obtain ⟨i0, hi, hz0, hz1, hz2⟩ := info_parts K.hi
  obtain ⟨g, c, w', hrun, hown2, hgrow, hl, _⟩ := run_append_lies (P := Try.prog) w K.t ty base K.e i0 K.z K.k K.bytes K.ht hi hz0 hz1 hz2 K.hz K.hk0 v _ _ hown
    ⟨B, 0, none⟩ 1 1 (K.enc x) (by rw [K.hk, Nat.one_mul]) (by rw [← hcs]; exact World.news_of_block hblk) (K.h1 x) (by omega) hmax hlen hbase _ rfl
  refine ⟨g, c, w', hrun, ?_, hgrow, hl⟩
  rw [flat_snoc, List.length_append]
  exact hown2
theorem wpList_append_newL {α : Type} (K : ElK α) {w : World} {ops : Array Oper} {rest : List Oper} {o : Oper} {a : Act} {Q : Exit → Act → World → Prop} (hgd : o.guard = none) (s y : Operand)
    (ho : o.op = .call { callee := .builtin .append, args := #[s, y], argTypes := #[K.t, K.t] })
    (base : Nat) (v : Value) (xs : List α) (hs : a.eval s = v) (hown : w.ownsRow base K.e K.k v xs.length (xs.flatMap K.enc))
    (B : Nat) (x : α) (hy : a.eval y = .slice (some ⟨B, 0, none⟩) 1 1) (cs : Array Value) (hcs : cs.toList = K.enc x) (fr : Nat × Nat) (hblk : w.heap[B]? = some (.cells cs K.e fr)) (hlen : (xs.length + 1) * K.bytes ≤ 140737488355328) (hmax : xs.length + 1 ≤ maxLen) (hbase : base ≤ w.heap.size)
    (h : ∀ g c w', w'.ownsRow base K.e K.k (.slice (some ⟨g, 0, none⟩) (xs.length + 1) c) (xs ++ [x]).length ((xs ++ [x]).flatMap K.enc) → w.grownBy w' v.ownBlock → (v.ownBlock = some g ∨ g = w.heap.size) → wpList Try.prog ops Q rest (a.put o.dst (.slice (some ⟨g, 0, none⟩) (xs.length + 1) c)) w') :
    wpList Try.prog ops Q (o :: rest) a w := by
  obtain ⟨g, c, w', hrun, h1, h2, h3⟩ := run_append_newL K o.type base v xs hown B x cs hcs fr hblk hlen hmax hbase
  refine wpList_plain hgd fun K' hK => ?_
  unfold Oper.wp
  simp [execOp, ho, resolve, invoke, builtin, hs, hy, hrun, Result.andThen]
  exact hK _ _ (h g c w' h1 h2 h3)
/-- A row that lay apart from one that has grown. -/
theorem Apt.grown {w : World} {v u : Value} {g n c : Nat} {base : Nat} {e : TypeId} {size m : Nat} {xs : List Value} (h : Apt v u) (hl : v.ownBlock = some g ∨ g = w.heap.size) (hu : w.ownsRow base e size u m xs) : Apt (.slice (some ⟨g, 0, none⟩) n c) u := by
  intro q h1 h2
  injection h1 with h1
  have h1' : g = q := h1
  subst h1'
  rcases hl with h3 | h3
  · exact h g h3 h2
  · have := (own_ge hu h2).2
    omega

/-- The bytes of some numbers. -/
def numsB (ns : List Int) : List Int := ns.flatMap put
theorem numsB_snoc (ns : List Int) (n : Int) : numsB (ns ++ [n]) = numsB ns ++ put n := by simp [numsB]
theorem numsB_len (ns : List Int) : (numsB ns).length ≤ 10 * ns.length := by
  induction ns with
  | nil => simp [numsB]
  | cons n ns ih =>
    have := put_len n
    simp only [numsB, List.flatMap_cons, List.length_append, List.length_cons] at *
    omega
theorem numsB_bytes {ns : List Int} (h : ∀ n ∈ ns, 0 ≤ n ∧ n ≤ 1099511627776) : ∀ x ∈ numsB ns, 0 ≤ x ∧ x ≤ 255 := by
  intro x hx
  obtain ⟨n, hn, hx⟩ := List.mem_flatMap.1 hx
  have := h n hn
  exact put_bytes this.1 (by omega) x hx

set_option maxHeartbeats 1000000 in
set_option maxRecDepth 100000 in
theorem appendNumbers_any (base b2 : Nat) (v0 vn : Value) (xs ns : List Int) (w : World) (h0 : w.ownsRow base 5 1 v0 xs.length (xs.map (Value.int .u8))) (hn : w.ownsRow b2 3 1 vn ns.length (ns.flatMap encI)) (hin : ∀ n ∈ ns, 0 ≤ n ∧ n ≤ 1099511627776) (hl : xs.length + 10 * ns.length ≤ 1000000000) (hb : base ≤ w.heap.size) :
    Calls Try.prog 26 #[v0, vn] w fun e w' => ∃ v', e = .returned v' ∧ w'.ownsRow base 5 1 v' (xs ++ numsB ns).length ((xs ++ numsB ns).map (Value.int .u8)) ∧ Below base w w' := by
  have O0 : Hid (w.ownsRow base 5 1 v0 xs.length (xs.map (Value.int .u8))) := h0
  have ON : Hid (w.ownsRow b2 3 1 vn ns.length (ns.flatMap encI)) := hn
  have HI : Hid (∀ n ∈ ns, 0 ≤ n ∧ n ≤ 1099511627776) := hin
  obtain ⟨na, nc, rfl⟩ : ∃ a c, vn = .slice a ns.length c := by obtain ⟨a, c, e, _⟩ := RowK.own encI_len hn; exact ⟨_, _, e⟩
  have hm : nc ≤ maxLen := by obtain ⟨_, _, e, _, h, _⟩ := RowK.own encI_len hn; injection e with _ _ e3; rw [e3]; exact h
  unfold maxLen at hm
  clear h0 hn hin
  go_enter Try.func26, Try.ntmps26
  go_wp2_with fail
  go_loopw [0, 9] (fun s i wr => ∃ k : Nat, k ≤ ns.length ∧ i = .int .i64 k ∧ wr.ownsRow base 5 1 s (xs ++ numsB (ns.take k)).length ((xs ++ numsB (ns.take k)).map (Value.int .u8)) ∧ wr.ownsRow b2 3 1 (.slice na ns.length nc) ns.length (ns.flatMap encI) ∧ Below base w wr) (fun _ i _ => ns.length - (intOf i).toNat)
  case atStart => exact ⟨0, by omega, rfl, by simpa [numsB] using O0.out, ON.out, Below.refl _ _⟩
  case round =>
    obtain ⟨k, hk, rfl, hown, hon, hbel⟩ := hrel
    have OW : Hid (wr.ownsRow base 5 1 u0 (xs ++ numsB (ns.take k)).length ((xs ++ numsB (ns.take k)).map (Value.int .u8))) := hown
    have OR : Hid (wr.ownsRow b2 3 1 (.slice na ns.length nc) ns.length (ns.flatMap encI)) := hon
    have HB : Hid (Below base w wr) := hbel
    have hsr := hbel.size
    clear hown hon hbel O0 ON
    by_cases hlt : k < ns.length
    · obtain ⟨x, hx⟩ := getX hlt
      obtain ⟨b, off, cap', e1, _, _, lt, hv⟩ := InR.at (RowK.own encI_len OR.out) (by omega)
      injection e1 with e1 _ e3
      subst e1 e3
      have d1 := hv k x hx
      have hxi := HI.out x (List.mem_of_getElem? hx)
      have HN : Hid (numsB (ns.take (k + 1)) = numsB (ns.take k) ++ put x) := by show _ = _; rw [take_snoc hx, numsB_snoc]
      have hlen : (xs ++ numsB (ns.take k)).length + 10 ≤ 140737488355328 := by
        have := numsB_len (ns.take k)
        rw [List.length_take] at this
        rw [List.length_append]; omega
      have hpl := put_len x
      have hw : IntKind.u64.wrap x = x := by rw [IntKind.wrap_u64]; omega
      have i1 : (0 : Int) ≤ (k : Int) := by omega
      have i2 : (k : Int) < (ns.length : Int) := by omega
      have HL : Hid ((xs ++ numsB (ns.take k)).length + 10 ≤ 140737488355328) := hlen
      clear hv hx hlen
      go_wp2_with fail
      refine (put_any x _ (by omega) (by omega)).mono ?_
      rintro e w2 ⟨v2, rfl, hown2, hb2⟩
      have R2 : Hid (Reads .u8 w2 v2 (put x)) := reads_own hown2
      have OW2 : Hid (w2.ownsRow base 5 1 u0 (xs ++ numsB (ns.take k)).length ((xs ++ numsB (ns.take k)).map (Value.int .u8))) := own_below OW.out hb2 (Nat.le_refl _)
      have OR2 : Hid (w2.ownsRow b2 3 1 (.slice (some ⟨b, off, none⟩) ns.length nc) ns.length (ns.flatMap encI)) := own_below OR.out hb2 (Nat.le_refl _)
      have HB2 : Hid (Below base w w2) := HB.out.trans (hb2.mono (by omega))
      have hs2 := hb2.size
      clear hown2 hb2 OW OR HB d1
      go_wp2_with (at_builtin; refine wpList_append_reads rfl _ _ rfl base _ (xs ++ numsB (ns.take k)) rfl OW2.out _ (put x) rfl R2.out (by have := HL.out; omega) (by omega) ?_)
      intro v3 w3 hown3 hb3 hgr3
      have OW3 : Hid (w3.ownsRow base 5 1 v3 (xs ++ numsB (ns.take (k + 1))).length ((xs ++ numsB (ns.take (k + 1))).map (Value.int .u8))) := by
        show World.ownsRow _ _ _ _ _ _ _
        rw [HN.out]; simpa [List.append_assoc] using hown3
      have OR3 : Hid (w3.ownsRow b2 3 1 (.slice (some ⟨b, off, none⟩) ns.length nc) ns.length (ns.flatMap encI)) := OR2.out.kept hgr3 (own_apart OR2.out OW2.out (by decide))
      have HB3 : Hid (Below base w w3) := HB2.out.trans hb3
      clear hown3 hb3 hgr3 OW2 OR2 HB2 R2
      go_wp2_with fail
      go_roundw
      case rel => exact ⟨k + 1, by omega, by go_num, OW3.out, OR3.out, HB3.out⟩
      case measure => simp [intOf]; omega
    · have ek : ns.take k = ns := List.take_of_length_le (by omega)
      rw [ek] at OW
      clear ek
      go_wp2_with fail
      go_ret
      exact ⟨_, rfl, OW.out, HB.out⟩
end Go.Proofs.Ytacpicnihgggaaa
