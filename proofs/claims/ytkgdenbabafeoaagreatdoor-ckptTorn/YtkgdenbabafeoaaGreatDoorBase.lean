/-
  Laws on slices of bytes: string(b), append(s, b...).
-/
import Derived.Test.YtkgdenbabafeoaaGreatDoorRowBase
import Derived.Lib.SlBytesConst
namespace Go.Proofs.YtkgdenbabafeoaaGreatDoor
set_option maxRecDepth 100000
open Go.ChangeShapes Go.WideShapes Go.ChangeAt Go.RowKit

theorem Reads.convert {w : World} {v : Value} {xs : List Int} (h : Reads .u8 w v xs) : (convert 31 9 v).run Tryz.prog w = .ok (.string (strOfNums xs)) w := by
  obtain ⟨a, cap, rfl, hc, hm, ha, hcell⟩ := h
  cases a with
  | none =>
    have := ha rfl
    have : xs = [] := List.eq_nil_of_length_eq_zero (by omega)
    subst this
    rw [run_convert_bytes_nil w 31 5 Tryz.underlying31 Tryz.underlying5 _ _ 9 Tryz.underlying9]
    rfl
  | some x =>
    rw [run_convert_bytes_string w 31 9 5 _ _ cap Tryz.underlying31 Tryz.underlying5 Tryz.underlying9]
    have hl : (loadCells x xs.length).run Tryz.prog w = .ok (xs.map (Value.int .u8)).toArray w := by
      have := run_loadCells_list (P := Tryz.prog) w x (xs.map (Value.int .u8)) (fun j u hj => by
        obtain ⟨hj1, rfl⟩ := getD_map hj
        exact hcell x rfl j hj1)
      simpa using this
    rw [run_bytesToString w _ _ cap xs hl, foldl_push_bytes]
    simp [strOfNums, ByteArray.empty, ByteArray.emptyWithCapacity]
    rfl

theorem wpList_append_reads {w : World} {ops : Array Oper} {rest : List Oper} {o : Oper} {a : Act} {Q : Exit → Act → World → Prop} (hgd : o.guard = none) (s x : Operand)
    (ho : o.op = .call { callee := .builtin .append, args := #[s, x], argTypes := #[31, 31] })
    (base : Nat) (v : Value) (xs : List Int) (hs : a.eval s = v) (hown : w.ownsRow base 5 1 v xs.length (xs.map (Value.int .u8)))
    (v2 : Value) (ys : List Int) (hx : a.eval x = v2) (hr : Reads .u8 w v2 ys) (hlen : xs.length + ys.length ≤ 140737488355328) (hbase : base ≤ w.heap.size)
    (h : ∀ v' w', w'.ownsRow base 5 1 v' (xs ++ ys).length ((xs ++ ys).map (Value.int .u8)) → Below base w w' → w.grownBy w' v.ownBlock → wpList Tryz.prog ops Q rest (a.put o.dst v') w') :
    wpList Tryz.prog ops Q (o :: rest) a w := by
  obtain ⟨i0, hi, hz0, hz1, hz2⟩ := info_parts Tryz.info5
  obtain ⟨ad, cap, rfl, hc, hm, ha, hcell⟩ := hr
  cases ad with
  | none =>
    have hcap := ha rfl
    have : ys = [] := List.eq_nil_of_length_eq_zero (by omega)
    subst this
    subst hcap
    refine wpList_append_own_none hgd s x 31 ho base 5 i0 1 Tryz.underlying31 hi v _ _ hs hown hx ?_
    refine h v w ?_ (Below.refl _ _) ?_
    · simpa using hown
    · exact World.grownBy.refl _ _
  | some p =>
    refine wpList_append_own w hgd s x 31 ho base 5 i0 (.int .u8 0) 1 1 Tryz.underlying31 hi hz0 hz1 hz2 rfl (by decide) v _ _ hs hown p ys.length cap (ys.map (Value.int .u8)) hx (by simp)
      (fun j u hj => by
        obtain ⟨hj1, rfl⟩ := getD_map hj
        exact hcell p rfl j hj1) (bytes_oneCell _) (by unfold maxLen; omega) (by omega) hbase ?_
    intro v' w' h2 h3 _
    exact h v' w' (by simpa using h2) ((Below.refl _ _).grown h3 hbase (fun k hk => (hown.lt k hk).1)) h3
end Go.Proofs.YtkgdenbabafeoaaGreatDoor
