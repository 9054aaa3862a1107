/-
  Senders, receivers, packets, acks and mail that came in: what their data say of memory.
-/
import Derived.Test.YtjmjpmnjibdhhaaMailTwo
import Derived.Test.YtjmjpmnjibdhhaaLinkMem
namespace Go.Proofs.Ytjmjpmnjibdhhaa
set_option maxRecDepth 100000
open Go.ChangeShapes Go.WideShapes Go.ChangeAt Go.RowKit

set_option maxHeartbeats 400000 in
theorem open_sender {H : Type} {enc : TypeId × Value → H} {W : World} {v0 : Value} {d0 : DataW H} {p0 : List MemPlace} (hv : ∃ cs, v0 = .agg cs ∧ cs.size = Try.prog.cellsOf 24) (h0 : DataW.Trod enc Try.prog W 0 (fun _ => true) true 24 v0 d0 p0)
    (hs : ∀ m ∈ d0.weights Try.prog 24, m ≤ reachBytes) : ∃ e b v l, v0 = .agg #[.int .i64 e, .int .i64 b, v] ∧ (i64B e ∧ i64B b) ∧ MlR W v l ∧ (∀ x ∈ l, mlB x) ∧ l.length * 16 ≤ 140737488351232 := by
  obtain ⟨cs, rfl, hcs⟩ := hv
  have hc1 : Try.prog.cellsOf 24 = 3 := by kernel_rfl
  have hc2 : Try.prog.cellsOf 22 = 1 := by kernel_rfl
  rw [hc1] at hcs
  obtain ⟨u, v, x, rfl⟩ : ∃ u v x, cs = #[u, v, x] := by
    obtain ⟨l⟩ := cs
    match l, hcs with
    | [u, v, x], _ => exact ⟨u, v, x, rfl⟩
  obtain ⟨fuel, hf⟩ := h0
  obtain ⟨xs, n, _, hx, _, hxl, hfld⟩ := DataW.trod_struct Try.underlying24 hf
  have h1 := hfld 0 _ rfl
  have h2 := hfld 1 _ rfl
  have h3 := hfld 2 _ rfl
  match xs, hxl with
  | [y0, y1, y2], _ =>
    have e1 : ((Value.agg #[u, v, x]).cells.toList.drop 0).take (Try.prog.cellsOf 3) = [u] := by rw [cells3M]; rfl
    have e2 : ((Value.agg #[u, v, x]).cells.toList.drop 1).take (Try.prog.cellsOf 3) = [v] := by rw [cells3M]; rfl
    have e3 : ((Value.agg #[u, v, x]).cells.toList.drop 2).take (Try.prog.cellsOf 22) = [x] := by rw [hc2]; rfl
    simp only [List.getElem?_cons_zero, List.getElem?_cons_succ] at h1 h2 h3
    have h1' : DataW.trod enc Try.prog W 0 (fun _ => true) true n 3 [u] = some y0 := by rw [← e1]; exact h1
    have h2' : DataW.trod enc Try.prog W 0 (fun _ => true) true n 3 [v] = some y1 := by rw [← e2]; exact h2
    have h3' : DataW.trod enc Try.prog W 0 (fun _ => true) true n 22 [x] = some y2 := by rw [← e3]; exact h3
    obtain ⟨i, e0, _, hi⟩ := DataW.trod_int Try.underlying3 h1'
    obtain ⟨j, e0', _, hj⟩ := DataW.trod_int Try.underlying3 h2'
    simp only [List.cons.injEq, and_true] at e0 e0'
    subst e0 e0'
    simp only [Prod.mk.injEq] at hx
    obtain ⟨rfl, _⟩ := hx
    have hs3 : ∀ m ∈ y2.1.weights Try.prog 22, m ≤ reachBytes := fun m hm => hs m (by
      simp only [DataW.weights, Try.underlying24, List.map_cons, List.map_nil, DataW.weightsEach, List.mem_append]
      simp [hm])
    obtain ⟨lo, hR, hB, hL⟩ := open_mailsF h3' hs3
    exact ⟨i, j, x, lo, rfl, ⟨bounds_i64 hi, bounds_i64 hj⟩, hR, hB, hL⟩

theorem open_pair {H : Type} {enc : TypeId × Value → H} {W : World} {t : TypeId} {f0 f1 : Field} (ht : Try.prog.underlying t = some (.struct #[f0, f1])) (hsz2 : Try.prog.cellsOf t = 2) (t0 : f0.type = 3) (t1 : f1.type = 3) (o0 : f0.offset = 0) (o1 : f1.offset = 1)
    {v0 : Value} {d0 : DataW H} {p0 : List MemPlace} (hv : ∃ cs, v0 = .agg cs ∧ cs.size = Try.prog.cellsOf t) (h0 : DataW.Trod enc Try.prog W 0 (fun _ => true) true t v0 d0 p0) :
    ∃ e : Ml, v0 = .agg #[.int .i64 e.1, .int .i64 e.2] ∧ mlB e := by
  obtain ⟨cs, rfl, hcs⟩ := hv
  obtain ⟨fuel, hf⟩ := h0
  obtain ⟨e, he, hb⟩ := open_two ht hsz2 t0 t1 o0 o1 hf
  refine ⟨e, ?_, hb⟩
  obtain ⟨l⟩ := cs
  have : l = encM e := he
  rw [this]
  rfl
theorem open_mailL {H : Type} {enc : TypeId × Value → H} {W : World} {v0 : Value} {d0 : DataW H} {p0 : List MemPlace} (hv : ∃ cs, v0 = .agg cs ∧ cs.size = Try.prog.cellsOf 33) (h0 : DataW.Trod enc Try.prog W 0 (fun _ => true) true 33 v0 d0 p0) :
    ∃ e : Ml, v0 = .agg #[.int .i64 e.1, .int .i64 e.2] ∧ mlB e := open_pair Try.underlying33 (by kernel_rfl) rfl rfl rfl rfl hv h0
theorem open_ack {H : Type} {enc : TypeId × Value → H} {W : World} {v0 : Value} {d0 : DataW H} {p0 : List MemPlace} (hv : ∃ cs, v0 = .agg cs ∧ cs.size = Try.prog.cellsOf 44) (h0 : DataW.Trod enc Try.prog W 0 (fun _ => true) true 44 v0 d0 p0) :
    ∃ e : Ml, v0 = .agg #[.int .i64 e.1, .int .i64 e.2] ∧ mlB e := open_pair Try.underlying44 (by kernel_rfl) rfl rfl rfl rfl hv h0
theorem open_receiver {H : Type} {enc : TypeId × Value → H} {W : World} {v0 : Value} {d0 : DataW H} {p0 : List MemPlace} (hv : ∃ cs, v0 = .agg cs ∧ cs.size = Try.prog.cellsOf 26) (h0 : DataW.Trod enc Try.prog W 0 (fun _ => true) true 26 v0 d0 p0) :
    ∃ e : Ml, v0 = .agg #[.int .i64 e.1, .int .i64 e.2] ∧ mlB e := open_pair Try.underlying26 (by kernel_rfl) rfl rfl rfl rfl hv h0

set_option maxHeartbeats 400000 in
theorem open_packet {H : Type} {enc : TypeId × Value → H} {W : World} {v0 : Value} {d0 : DataW H} {p0 : List MemPlace} (hv : ∃ cs, v0 = .agg cs ∧ cs.size = Try.prog.cellsOf 48) (h0 : DataW.Trod enc Try.prog W 0 (fun _ => true) true 48 v0 d0 p0) :
    ∃ (x n : Int) (m : Ml), v0 = .agg #[.int .i64 x, .int .i64 n, .int .i64 m.1, .int .i64 m.2] ∧ (i64B x ∧ i64B n ∧ mlB m) := by
  obtain ⟨cs, rfl, hcs⟩ := hv
  have hc1 : Try.prog.cellsOf 48 = 4 := by kernel_rfl
  have hc2 : Try.prog.cellsOf 33 = 2 := by kernel_rfl
  rw [hc1] at hcs
  obtain ⟨u, v, x, y, rfl⟩ : ∃ u v x y, cs = #[u, v, x, y] := by
    obtain ⟨l⟩ := cs
    match l, hcs with
    | [u, v, x, y], _ => exact ⟨u, v, x, y, rfl⟩
  obtain ⟨fuel, hf⟩ := h0
  obtain ⟨xs, n, _, hx, _, hxl, hfld⟩ := DataW.trod_struct Try.underlying48 hf
  have h1 := hfld 0 _ rfl
  have h2 := hfld 1 _ rfl
  have h3 := hfld 2 _ rfl
  match xs, hxl with
  | [y0, y1, y2], _ =>
    have e1 : ((Value.agg #[u, v, x, y]).cells.toList.drop 0).take (Try.prog.cellsOf 3) = [u] := by rw [cells3M]; rfl
    have e2 : ((Value.agg #[u, v, x, y]).cells.toList.drop 1).take (Try.prog.cellsOf 3) = [v] := by rw [cells3M]; rfl
    have e3 : ((Value.agg #[u, v, x, y]).cells.toList.drop 2).take (Try.prog.cellsOf 33) = [x, y] := by rw [hc2]; rfl
    simp only [List.getElem?_cons_zero, List.getElem?_cons_succ] at h1 h2 h3
    have h1' : DataW.trod enc Try.prog W 0 (fun _ => true) true n 3 [u] = some y0 := by rw [← e1]; exact h1
    have h2' : DataW.trod enc Try.prog W 0 (fun _ => true) true n 3 [v] = some y1 := by rw [← e2]; exact h2
    have h3' : DataW.trod enc Try.prog W 0 (fun _ => true) true n 33 [x, y] = some y2 := by rw [← e3]; exact h3
    obtain ⟨i, e0, _, hi⟩ := DataW.trod_int Try.underlying3 h1'
    obtain ⟨j, e0', _, hj⟩ := DataW.trod_int Try.underlying3 h2'
    simp only [List.cons.injEq, and_true] at e0 e0'
    subst e0 e0'
    obtain ⟨m, he, hb⟩ := open_two Try.underlying33 (by kernel_rfl) rfl rfl rfl rfl h3'
    simp only [encM, List.cons.injEq, and_true] at he
    obtain ⟨rfl, rfl⟩ := he
    exact ⟨i, j, m, rfl, bounds_i64 hi, bounds_i64 hj, hb⟩
end Go.Proofs.Ytjmjpmnjibdhhaa
