/-
  States in memory: their box, what is answered.
-/
import Derived.Test.YtinijeejfnehmaaRoundMath
import Derived.Test.YtinijeejfnehmaaIntLists
import Derived.Test.YtinijeejfnehmaaBoxMem
import Derived.Test.YtinijeejfnehmaaOwnOff
import Derived.Test.YtinijeejfnehmaaValMem
namespace Go.Proofs.Ytinijeejfnehmaa
set_option maxRecDepth 100000
open Go.ChangeShapes Go.WideShapes Go.ChangeAt Go.RowKit

/-- The cells of a state. -/
def staC (t : StS) (vv vm : Value) : Array Value := #[.int .i64 t.step, .int .i64 t.phase, .bool t.fresh, .bool t.done, vv, vm]
/-- A state that is answered, and an error. -/
def StaP (w : World) (r : Int × StS) (e : Ending) (w' : World) : Prop :=
  ∃ vv vm, e = .returned (.tuple #[.agg #[.int .i64 r.2.step, .int .i64 r.2.phase, .bool r.2.fresh, .bool r.2.done, vv, vm], .int .i64 r.1]) ∧ w'.ownsRow w.heap.size 53 2 vv r.2.vals.length (r.2.vals.flatMap encM) ∧ OwnLi w' w.heap.size vm r.2.mail ∧ Below w.heap.size w w'
theorem StaP.no {w w' : World} {f : Int} (hb : Below w.heap.size w w') : StaP w (f, st0) (.returned (.tuple #[.agg #[.int .i64 0, .int .i64 0, .bool false, .bool false, .slice none 0 0, .slice none 0 0], .int .i64 f])) w' :=
  ⟨_, _, rfl, World.ownsRow_nil _ _ _ _, OwnLi.nil _ _, hb⟩
theorem StaP.yes {w w' : World} {t : StS} {vv vm : Value} (h1 : w'.ownsRow w.heap.size 53 2 vv t.vals.length (t.vals.flatMap encM)) (h2 : OwnLi w' w.heap.size vm t.mail) (hb : Below w.heap.size w w') : StaP w (0, t) (.returned (.tuple #[.agg #[.int .i64 t.step, .int .i64 t.phase, .bool t.fresh, .bool t.done, vv, vm], .int .i64 0])) w' :=
  ⟨_, _, rfl, h1, h2, hb⟩
section
variable {t : TypeId} {w w' : World} {q : Nat} {a b c d e f : Value}
theorem BX.all6 (h : BX t w q #[a, b, c, d, e, f]) : (w.cell? ⟨q, 0, none⟩ = some a ∧ w.cell? ⟨q, 1, none⟩ = some b ∧ w.cell? ⟨q, 2, none⟩ = some c ∧ w.cell? ⟨q, 3, none⟩ = some d ∧ w.cell? ⟨q, 4, none⟩ = some e ∧ w.cell? ⟨q, 5, none⟩ = some f) ∧
    (w.frozen? ⟨q, 0, none⟩ = false ∧ w.frozen? ⟨q, 1, none⟩ = false ∧ w.frozen? ⟨q, 2, none⟩ = false ∧ w.frozen? ⟨q, 3, none⟩ = false ∧ w.frozen? ⟨q, 4, none⟩ = false ∧ w.frozen? ⟨q, 5, none⟩ = false) :=
  ⟨⟨h.cell 0, h.cell 1, h.cell 2, h.cell 3, h.cell 4, h.cell 5⟩, h.frozen 0, h.frozen 1, h.frozen 2, h.frozen 3, h.frozen 4, h.frozen 5⟩
/-- A whole store of a state. -/
def put6 (w : World) (q : Nat) (a b c d e f : Value) : World := (((((w.setCell ⟨q, 0, none⟩ a).setCell ⟨q, 1, none⟩ b).setCell ⟨q, 2, none⟩ c).setCell ⟨q, 3, none⟩ d).setCell ⟨q, 4, none⟩ e).setCell ⟨q, 5, none⟩ f
theorem BX.put6 {x1 x2 x3 x4 x5 x6 : Value} (h : BX t w q #[a, b, c, d, e, f]) : BX t (put6 w q x1 x2 x3 x4 x5 x6) q #[x1, x2, x3, x4, x5, x6] := (((((h.set 0 x1).set 1 x2).set 2 x3).set 3 x4).set 4 x5).set 5 x6
theorem kept_put6 (w : World) (q : Nat) (a b c d e f : Value) : Kept (fun k => k = q) w (Go.Proofs.Ytinijeejfnehmaa.put6 w q a b c d e f) := by
  unfold Go.Proofs.Ytinijeejfnehmaa.put6
  exact (((((Kept.box w q 0 a).trans (Kept.box _ q 1 b)).trans (Kept.box _ q 2 c)).trans (Kept.box _ q 3 d)).trans (Kept.box _ q 4 e)).trans (Kept.box _ q 5 f)
theorem below_put6 {B : Nat} {w0 : World} (h : Below B w0 w) (hB : B ≤ q) (hq : q < w.heap.size) (x1 x2 x3 x4 x5 x6 : Value) : Below B w0 (Go.Proofs.Ytinijeejfnehmaa.put6 w q x1 x2 x3 x4 x5 x6) :=
  h.trans ((kept_put6 w q x1 x2 x3 x4 x5 x6).below (by omega) (fun k hk => by omega))
/-- Lists of numbers, where a box of another type is written. -/
theorem OwnLi.off {base : Nat} {v : Value} {fs : List (List Int)} {cs : Array Value} (h : OwnLi w base v fs) (hq : BX t w q cs) (h1 : 57 ≠ t) (h2 : 3 ≠ t) (hk : Kept (fun k => k = q) w w') : OwnLi w' base v fs := by
  obtain ⟨vs, k1, k2, k3⟩ := h
  exact ⟨vs, k1, hk.own k2 fun g hg => own_block k2 hg hq h1, fun j u l hu hl => hk.own (k3 j u l hu hl) fun g hg => own_block (k3 j u l hu hl) hg hq h2⟩
/-- .. where a row of another type grows. -/
theorem OwnLi.apart {base b n size : Nat} {el : TypeId} {v r : Value} {fs : List (List Int)} {xs : List Value} (h : OwnLi w base v fs) (hr : w.ownsRow b el size r n xs) (hg : w.grownBy w' r.ownBlock) (h1 : 57 ≠ el) (h2 : 3 ≠ el) : OwnLi w' base v fs := by
  obtain ⟨vs, k1, k2, k3⟩ := h
  exact ⟨vs, k1, k2.kept hg (own_apart k2 hr h1), fun j u l hu hl => (k3 j u l hu hl).kept hg (own_apart (k3 j u l hu hl) hr h2)⟩
theorem OwnLi.below {base B : Nat} {v : Value} {fs : List (List Int)} (h : OwnLi w base v fs) (hb : Below B w w') (hB : w.heap.size ≤ B) : OwnLi w' base v fs := by
  obtain ⟨vs, k1, k2, k3⟩ := h
  exact ⟨vs, k1, own_below k2 hb hB, fun j u l hu hl => own_below (k3 j u l hu hl) hb hB⟩
theorem OwnLi.shape {base : Nat} {v : Value} {fs : List (List Int)} (h : OwnLi w base v fs) : ∃ a c, v = .slice a fs.length c := by
  obtain ⟨vs, k1, k2, k3⟩ := h
  rcases own_cases k2 with ⟨rfl, h0, _⟩ | ⟨g, cap, rfl, _⟩
  · exact ⟨none, 0, by rw [h0]⟩
  · exact ⟨_, _, rfl⟩
end
end Go.Proofs.Ytinijeejfnehmaa
