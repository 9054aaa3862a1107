/-
  Mail that is put in order piece by piece.
-/
import Derived.Test.YtbmkgnlfccigpaaRndSaid
import Derived.Test.YtbmkgnlfccigpaaNumIn
namespace Go.Proofs.Ytbmkgnlfccigpaa
set_option maxRecDepth 100000

theorem sort_edge (j : Jb) (r : Int → Ml × Bool) (es : List Ed) (e : Ed) (u : Int) :
    sortN (msgs j r (es ++ [e]) u) = (if inM j r u e then insN (if outM j r u e then insN (sortN (msgs j r es u)) (sayJ j (r e.1).1.1 e.2.2) else sortN (msgs j r es u)) (sayJ j (r e.2.1).1.1 e.2.2) else (if outM j r u e then insN (sortN (msgs j r es u)) (sayJ j (r e.1).1.1 e.2.2) else sortN (msgs j r es u))) := by
  rw [msgs_snoc]
  unfold msgE
  change sortN (msgs j r es u ++ ((if outM j r u e = true then _ else _) ++ (if inM j r u e = true then _ else _))) = _
  cases outM j r u e <;> cases inM j r u e <;> simp [insN_sort]
end Go.Proofs.Ytbmkgnlfccigpaa
