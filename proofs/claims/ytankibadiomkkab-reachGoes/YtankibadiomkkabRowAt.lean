/-
  The cells of hops in slices that read; append on rows of hops.
-/
import Derived.Test.YtankibadiomkkabRowAppend
namespace Go.Proofs.Ytankibadiomkkab
set_option maxRecDepth 100000
open Go.ChangeShapes Go.WideShapes Go.ChangeAt Go.RowKit

theorem HpR.at {w : World} {v : Value} {es : List Hp} (h : HpR w v es) (hn : 0 < es.length) :
    ∃ b off cap, v = .slice (some ⟨b, off, none⟩) es.length cap ∧ es.length ≤ cap ∧ cap ≤ maxLen ∧ b < w.heap.size ∧ ∀ i x, es[i]? = some x →
      w.cell? ⟨b, off + i * 2, none⟩ = some (.int .i64 x.1) ∧ w.cell? ⟨b, off + i * 2 + 1, none⟩ = some (.int .i64 x.2) := by
  obtain ⟨a, cap, rfl, hc, hm, _, hel⟩ := h
  obtain ⟨b, off, rfl, lt, hv⟩ := hel hn
  exact ⟨b, off, cap, rfl, hc, hm, lt, fun i x hx => ⟨hv i x hx 0 _ rfl, hv i x hx 1 _ rfl⟩⟩
theorem Try.infoH : (Try.prog.info? 52).map (fun i => (i.zero, i.size, i.bytes)) = some (some (.agg #[.int .i64 0, .int .i64 0]), 2, 16) := by kernel_rfl
def kH : ElK Hp := ⟨encH, 2, 50, 52, 16, .agg #[.int .i64 0, .int .i64 0], Try.underlying50, Try.infoH, rfl, by decide, encH_len, encH_one⟩
end Go.Proofs.Ytankibadiomkkab
