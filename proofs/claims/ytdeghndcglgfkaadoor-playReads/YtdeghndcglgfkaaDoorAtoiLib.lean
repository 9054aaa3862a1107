/-
  What the walks ask of package variables of the library; strconv.Atoi at every string. (Stage 5 has these in NumbersWalk.)
-/
import Derived.Test.YtdeghndcglgfkaaDoorBuildLib
import Derived.Test.YtdeghndcglgfkaaDoorShelfR
import Derived.Test.YtdeghndcglgfkaaDoorDigMath
namespace Go.Proofs.YtdeghndcglgfkaaDoor
set_option maxRecDepth 100000
open Go.ChangeShapes Go.WideShapes Go.ChangeAt Go.RowKit

/-- The package variables of the library, as far as they are read: below B, so they stay. -/
structure VarF (B : Nat) (w : World) : Prop where
  mx : ∃ m, w.cell? ⟨1, 0, none⟩ = some (.int .i64 m)
  es : ∃ t p, w.cell? ⟨3, 0, none⟩ = some (.iface t p)
  er : ∃ t p, w.cell? ⟨4, 0, none⟩ = some (.iface t p)
  tb : Tab10 B w
  lt : 1 < B ∧ 3 < B ∧ 4 < B
theorem VarF.on {B : Nat} {w w' : World} (h : VarF B w) (hb : Below B w w') : VarF B w' := by
  obtain ⟨⟨m, hm⟩, ⟨t, p, h2⟩, ⟨t', p', h3⟩, h4, h5⟩ := h
  exact ⟨⟨m, (hb.cell (p := ⟨1, 0, none⟩) h5.1).trans hm⟩, ⟨t, p, (hb.cell (p := ⟨3, 0, none⟩) h5.2.1).trans h2⟩, ⟨t', p', (hb.cell (p := ⟨4, 0, none⟩) h5.2.2).trans h3⟩, h4.on hb, h5⟩
theorem VarF.up {B C : Nat} {w : World} (h : VarF B w) (hB : B ≤ C) : VarF C w := ⟨h.mx, h.es, h.er, h.tb.up hB, ⟨Nat.lt_of_lt_of_le h.lt.1 hB, Nat.lt_of_lt_of_le h.lt.2.1 hB, Nat.lt_of_lt_of_le h.lt.2.2 hB⟩⟩

theorem atoi_any (s : ByteArray) (hs : s.size ≤ 281474976710656) (B : Nat) (w : World) (hV : VarF B w) :
    Calls Tryd.prog 40 #[.string s] w fun e w' => ∃ ev, e = .returned (.tuple #[.int .i64 (atoiV s.data.toList), ev]) ∧ Below w.heap.size w w' := by
  obtain ⟨t, p, h2⟩ := hV.es
  obtain ⟨t', p', h3⟩ := hV.er
  unfold atoiV
  cases h : Lib.atoiAll s.data.toList with
  | ok v =>
    refine (Tryd.strconv_Atoi_ok s (by omega) v h w).mono ?_
    rintro e w' ⟨rfl, rfl | ⟨t, rfl⟩⟩
    · exact ⟨_, rfl, Below.refl _ _⟩
    · exact ⟨_, rfl, Lib.bytesWorld_below w 5 t⟩
  | «syntax» =>
    refine (Tryd.strconv_Atoi_syntax s hs h _ w h2 (.inr ⟨_, _, rfl⟩)).mono ?_
    rintro e w' ⟨N, rfl, _, _, hb⟩
    exact ⟨_, rfl, hb⟩
  | range =>
    refine (Tryd.strconv_Atoi_range s hs h _ w h3 (.inr ⟨_, _, rfl⟩)).mono ?_
    rintro e w' ⟨N, rfl, _, _, hb⟩
    exact ⟨_, rfl, hb⟩
end Go.Proofs.YtdeghndcglgfkaaDoor
