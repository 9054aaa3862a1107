/-
  Memory of a link at work: both ends in their boxes, and the rows of packets, acks and mail.
-/
import Derived.Test.YtjmjpmnjibdhhaaLinkMem
import Derived.Maps.AppendAt
namespace Go.Proofs.Ytjmjpmnjibdhhaa
open Go.ChangeShapes Go.WideShapes Go.ChangeAt Go.RowKit
set_option maxRecDepth 100000

theorem Try.infoA : (Try.prog.info? 44).map (fun i => (i.zero, i.size, i.bytes)) = some (some (.agg #[.int .i64 0, .int .i64 0]), 2, 16) := by kernel_rfl
def kA : ElK Ml := ⟨encM, 2, 66, 44, 16, .agg #[.int .i64 0, .int .i64 0], Try.underlying66, Try.infoA, rfl, by decide, encM_len, encM_one⟩
theorem MlR.owndA {w : World} {base : Nat} {v : Value} {es : List Ml} (h : w.ownsRow base 44 2 v es.length (es.flatMap encM)) : MlR w v es := RowK.own encM_len h

/-- append(s, t...), and where its row lies. -/
theorem run_append_rowKat {α : Type} (K : ElK α) {w : World} (ty : TypeId) (base : Nat) (v : Value) (xs : List α) (hown : w.ownsRow base K.e K.k v xs.length (xs.flatMap K.enc))
    (v2 : Value) (ys : List α) (hr : RowK K.enc K.k w v2 ys) (hlen : (xs.length + ys.length) * K.bytes ≤ 140737488355328) (hmax : xs.length + ys.length ≤ maxLen) (hbase : base ≤ w.heap.size) :
    ∃ v' w', (Builtin.append_ #[K.t, K.t] ty #[v, v2]).run Try.prog w = .ok v' w' ∧ w'.ownsRow base K.e K.k v' (xs ++ ys).length ((xs ++ ys).flatMap K.enc) ∧ w.grownBy w' v.ownBlock ∧ (v'.ownBlock = v.ownBlock ∨ v'.ownBlock = some w.heap.size) := by
  obtain ⟨i0, hi, hz0, hz1, hz2⟩ := info_parts K.hi
  obtain ⟨ad, cap, rfl, hc, hm, ha, hel⟩ := hr
  cases ad with
  | none =>
    have hcap := ha rfl
    have : ys = [] := List.eq_nil_of_length_eq_zero (by omega)
    subst this
    subst hcap
    have h := run_append_owned_none (P := Try.prog) (w := w) base K.t ty K.e i0 K.k K.ht hi v _ _ hown
    exact ⟨v, w, h, by simpa using hown, World.grownBy.refl _ _, .inl rfl⟩
  | some p =>
    obtain ⟨v', w', h1, h2, h3, _, h5⟩ := run_append_own_at w base K.t ty K.e i0 K.z K.k K.bytes K.ht hi hz0 hz1 hz2 K.hz K.hk0 v _ _ hown p ys.length cap (ys.flatMap K.enc) (flat_len K.hk ys)
      (fun j u hj => by
        have hj2 : j < ys.length * K.k := by
          rw [← flat_len K.hk ys]
          rcases Nat.lt_or_ge j (ys.flatMap K.enc).length with h' | h'
          · exact h'
          · rw [List.getElem?_eq_none h'] at hj; cases hj
        have hn : 0 < ys.length := by
          rcases Nat.eq_zero_or_pos ys.length with h | h
          · rw [h] at hj2; omega
          · exact h
        obtain ⟨b, off, e, lt, hv⟩ := hel hn
        injection e with e
        subst e
        have hi1 : j / K.k < ys.length := (Nat.div_lt_iff_lt_mul K.hk0).2 hj2
        have hm1 : j % K.k < K.k := Nat.mod_lt _ K.hk0
        have hx : ys[j / K.k]? = some ys[j / K.k] := List.getElem?_eq_getElem hi1
        have hm2 : j % K.k < (K.enc ys[j / K.k]).length := by rw [K.hk]; exact hm1
        have hu : (K.enc ys[j / K.k])[j % K.k]? = some (K.enc ys[j / K.k])[j % K.k] := List.getElem?_eq_getElem hm2
        have hj3 := flat_at K.hk hx hu
        rw [show j / K.k * K.k + j % K.k = j by rw [Nat.mul_comm]; exact Nat.div_add_mod j K.k] at hj3
        rw [hj] at hj3
        injection hj3 with hj3
        have := hv _ _ hx _ _ hu
        rw [← hj3] at this
        rw [addr_plus]
        have e2 : off + j / K.k * K.k + j % K.k = off + j := by rw [Nat.add_assoc, Nat.mul_comm, Nat.div_add_mod]
        rw [e2] at this
        exact this) (flat_one K ys) hmax hlen hbase
    exact ⟨v', w', h1, by simpa using h2, h3, h5⟩
theorem wpList_append_rowKat {α : Type} (K : ElK α) {w : World} {ops : Array Oper} {rest : List Oper} {o : Oper} {a : Act} {Q : Exit → Act → World → Prop} (hgd : o.guard = none) (s y : Operand)
    (ho : o.op = .call { callee := .builtin .append, args := #[s, y], argTypes := #[K.t, K.t] })
    (base : Nat) (v : Value) (xs : List α) (hs : a.eval s = v) (hown : w.ownsRow base K.e K.k v xs.length (xs.flatMap K.enc))
    (v2 : Value) (ys : List α) (hy : a.eval y = v2) (hr : RowK K.enc K.k w v2 ys) (hlen : (xs.length + ys.length) * K.bytes ≤ 140737488355328) (hmax : xs.length + ys.length ≤ maxLen) (hbase : base ≤ w.heap.size)
    (h : ∀ v' w', w'.ownsRow base K.e K.k v' (xs ++ ys).length ((xs ++ ys).flatMap K.enc) → w.grownBy w' v.ownBlock → (v'.ownBlock = v.ownBlock ∨ v'.ownBlock = some w.heap.size) → wpList Try.prog ops Q rest (a.put o.dst v') w') :
    wpList Try.prog ops Q (o :: rest) a w := by
  obtain ⟨v', w', hrun, h1, h2, h3⟩ := run_append_rowKat K o.type base v xs hown v2 ys hr hlen hmax hbase
  refine wpList_plain hgd fun K' hK => ?_
  unfold Oper.wp
  simp [execOp, ho, resolve, invoke, builtin, hs, hy, hrun, Result.andThen]
  exact hK _ _ (h v' w' h1 h2 h3)

/-- Both ends in their boxes q9 and q10, the result's box q7, the loads, packets, acks and what was handed on, in rows of the call's own. -/
structure LSt (w : World) (q7 q9 q10 B : Nat) (W : World) (b k : Int) (vS vP vA vG : Value) (ld : List Ml) (ps : List Pk) (ks gt : List Ml) : Prop where
  o7 : w.heap.size ≤ q7
  o9 : q7 < q9
  o10 : q9 < q10
  oB : q10 < B
  hB : B ≤ W.heap.size
  x7 : BX 24 W q7 #[.int .i64 0, .int .i64 0, .slice none 0 0]
  x9 : BX 24 W q9 #[.int .i64 1, .int .i64 b, vS]
  x10 : BX 26 W q10 #[.int .i64 1, .int .i64 k]
  rS : W.ownsRow B 33 2 vS ld.length (ld.flatMap encM)
  rP : W.ownsRow B 48 4 vP ps.length (ps.flatMap encP)
  rA : W.ownsRow B 44 2 vA ks.length (ks.flatMap encM)
  rG : W.ownsRow B 33 2 vG gt.length (gt.flatMap encM)
  dj : vS.ownBlock = none ∨ vS.ownBlock ≠ vG.ownBlock
  bel : Below w.heap.size w W

section
variable {w W W' : World} {q7 q9 q10 B : Nat} {b k : Int} {vS vP vA vG : Value} {ld : List Ml} {ps : List Pk} {ks gt : List Ml}
theorem LSt.below (h : LSt w q7 q9 q10 B W b k vS vP vA vG ld ps ks gt) (hb : Below W.heap.size W W') : LSt w q7 q9 q10 B W' b k vS vP vA vG ld ps ks gt :=
  ⟨h.o7, h.o9, h.o10, h.oB, Nat.le_trans h.hB hb.size, h.x7.below hb h.x7.lt, h.x9.below hb h.x9.lt, h.x10.below hb h.x10.lt, own_below h.rS hb (Nat.le_refl _), own_below h.rP hb (Nat.le_refl _), own_below h.rA hb (Nat.le_refl _), own_below h.rG hb (Nat.le_refl _), h.dj, h.bel.trans (hb.mono h.bel.size)⟩
/-- The sender is stored. -/
theorem LSt.sends (h : LSt w q7 q9 q10 B W b k vS vP vA vG ld ps ks gt) {b' : Int} {v' : Value} {ld' : List Ml} (hv : W.ownsRow B 33 2 v' ld'.length (ld'.flatMap encM)) (hd : v'.ownBlock = none ∨ v'.ownBlock ≠ vG.ownBlock) :
    LSt w q7 q9 q10 B (put3 W q9 (.int .i64 1) (.int .i64 b') v') b' k v' vP vA vG ld' ps ks gt := by
  have hs : (put3 W q9 (.int .i64 1) (.int .i64 b') v').heap.size = W.heap.size := by unfold put3; simp
  have h7 := h.o7
  have h9 := h.o9
  have h10 := h.o10
  exact ⟨h.o7, h.o9, h.o10, h.oB, by rw [hs]; exact h.hB, h.x7.off3 (by omega), h.x9.put3 _ _ _, h.x10.off3 (by omega), h.x9.own3 hv (by decide), h.x9.own3 h.rP (by decide), h.x9.own3 h.rA (by decide), h.x9.own3 h.rG (by decide), hd, below_put3 h.bel (by omega) _ _ _⟩
/-- The receiver is stored. -/
theorem LSt.wants (h : LSt w q7 q9 q10 B W b k vS vP vA vG ld ps ks gt) {k' : Int} : LSt w q7 q9 q10 B (put2 W q10 (.int .i64 1) (.int .i64 k')) b k' vS vP vA vG ld ps ks gt := by
  have hs : (put2 W q10 (.int .i64 1) (.int .i64 k')).heap.size = W.heap.size := by unfold put2; simp
  have h7 := h.o7
  have h9 := h.o9
  have h10 := h.o10
  exact ⟨h.o7, h.o9, h.o10, h.oB, by rw [hs]; exact h.hB, h.x7.off2 (by omega), h.x9.off2 (by omega), h.x10.put2 _ _, h.x10.own2 h.rS (by decide), h.x10.own2 h.rP (by decide), h.x10.own2 h.rA (by decide), h.x10.own2 h.rG (by decide), h.dj, below_put2 h.bel (by omega) _ _⟩
theorem LSt.newRow (h : LSt w q7 q9 q10 B W b k vS vP vA vG ld ps ks gt) {v' : Value} {ld' : List Ml} {X : Nat} (hX : W.heap.size ≤ X) (hv : W'.ownsRow X 33 2 v' ld'.length (ld'.flatMap encM)) : v'.ownBlock = none ∨ v'.ownBlock ≠ vG.ownBlock := by
  cases hg : vG.ownBlock with
  | none => cases hv' : v'.ownBlock with
    | none => exact .inl rfl
    | some g => exact .inr (by simp)
  | some g =>
    cases hv' : v'.ownBlock with
    | none => exact .inl rfl
    | some g' =>
      refine .inr fun e => ?_
      injection e with e
      have h1 := (h.rG.lt g hg).2
      have h2 := (hv.lt g' hv').1
      omega
/-- Rows grow. -/
theorem LSt.gets (h : LSt w q7 q9 q10 B W b k vS vP vA vG ld ps ks gt) {vG' : Value} {gt' : List Ml} (ho : W'.ownsRow B 33 2 vG' gt'.length (gt'.flatMap encM)) (hg : W.grownBy W' vG.ownBlock) (hat : vG'.ownBlock = vG.ownBlock ∨ vG'.ownBlock = some W.heap.size) :
    LSt w q7 q9 q10 B W' b k vS vP vA vG' ld ps ks gt' := by
  have h1 := h.bel.size
  have h7 := h.o7
  have h9 := h.o9
  have h10 := h.o10
  have h11 := h.oB
  refine ⟨h.o7, h.o9, h.o10, h.oB, Nat.le_trans h.hB hg.size, h.x7.grown h.rG (by decide) hg, h.x9.grown h.rG (by decide) hg, h.x10.grown h.rG (by decide) hg, h.rS.kept hg h.dj, h.rP.kept hg (own_apart h.rP h.rG (by decide)), h.rA.kept hg (own_apart h.rA h.rG (by decide)), ho, ?_, h.bel.trans ((Below.refl _ _).grown hg h1 (fun j hj => by have := (h.rG.lt j hj).1; omega))⟩
  rcases hat with e | e
  · rw [e]; exact h.dj
  · rw [e]
    cases hv : vS.ownBlock with
    | none => exact .inl rfl
    | some g => exact .inr fun e2 => by injection e2 with e2; have := (h.rS.lt g hv).2; omega
theorem LSt.packs (h : LSt w q7 q9 q10 B W b k vS vP vA vG ld ps ks gt) {vP' : Value} {ps' : List Pk} (ho : W'.ownsRow B 48 4 vP' ps'.length (ps'.flatMap encP)) (hg : W.grownBy W' vP.ownBlock) :
    LSt w q7 q9 q10 B W' b k vS vP' vA vG ld ps' ks gt := by
  have h1 := h.bel.size
  have h7 := h.o7
  have h9 := h.o9
  have h10 := h.o10
  have h11 := h.oB
  exact ⟨h.o7, h.o9, h.o10, h.oB, Nat.le_trans h.hB hg.size, h.x7.grown h.rP (by decide) hg, h.x9.grown h.rP (by decide) hg, h.x10.grown h.rP (by decide) hg, h.rS.kept hg (own_apart h.rS h.rP (by decide)), ho, h.rA.kept hg (own_apart h.rA h.rP (by decide)), h.rG.kept hg (own_apart h.rG h.rP (by decide)), h.dj, h.bel.trans ((Below.refl _ _).grown hg h1 (fun j hj => by have := (h.rP.lt j hj).1; omega))⟩
theorem LSt.acks (h : LSt w q7 q9 q10 B W b k vS vP vA vG ld ps ks gt) {vA' : Value} {ks' : List Ml} (ho : W'.ownsRow B 44 2 vA' ks'.length (ks'.flatMap encM)) (hg : W.grownBy W' vA.ownBlock) :
    LSt w q7 q9 q10 B W' b k vS vP vA' vG ld ps ks' gt := by
  have h1 := h.bel.size
  have h7 := h.o7
  have h9 := h.o9
  have h10 := h.o10
  have h11 := h.oB
  exact ⟨h.o7, h.o9, h.o10, h.oB, Nat.le_trans h.hB hg.size, h.x7.grown h.rA (by decide) hg, h.x9.grown h.rA (by decide) hg, h.x10.grown h.rA (by decide) hg, h.rS.kept hg (own_apart h.rS h.rA (by decide)), h.rP.kept hg (own_apart h.rP h.rA (by decide)), ho, h.rG.kept hg (own_apart h.rG h.rA (by decide)), h.dj, h.bel.trans ((Below.refl _ _).grown hg h1 (fun j hj => by have := (h.rA.lt j hj).1; omega))⟩
/-- All is lost. -/
theorem LSt.lost (h : LSt w q7 q9 q10 B W b k vS vP vA vG ld ps ks gt) : LSt w q7 q9 q10 B W b k vS (.slice none 0 0) (.slice none 0 0) vG ld [] [] gt :=
  ⟨h.o7, h.o9, h.o10, h.oB, h.hB, h.x7, h.x9, h.x10, h.rS, World.ownsRow_nil _ _ _ _, World.ownsRow_nil _ _ _ _, h.rG, h.dj, h.bel⟩
end
end Go.Proofs.Ytjmjpmnjibdhhaa
