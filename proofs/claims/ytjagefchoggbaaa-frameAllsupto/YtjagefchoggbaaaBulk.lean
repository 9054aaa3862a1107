/-
  What the bound of the second form gives: a slice that is an argument has no more places than the bound.
-/
import Derived.Test.YtjagefchoggbaaaRows
namespace Go.Proofs.Ytjagefchoggbaaa

theorem bulk_pos {H : Type} (d : DataW H) : 1 ≤ Rows.uptoBulk d := by
  rcases d with l | _ | _ | _ | _ | _ | _ | _
  · cases l <;> simp [Rows.uptoBulk]
  all_goals simp [Rows.uptoBulk]
theorem bulk_count {H : Type} : ∀ l : List (DataW H), l.length ≤ Rows.uptoBulkAll l
  | [] => by simp [Rows.uptoBulkAll]
  | d :: r => by
    have h1 := bulk_pos d
    have h2 := bulk_count r
    simp only [Rows.uptoBulkAll, List.length_cons]
    omega
theorem bulk_slice {H : Type} {d : DataW H} {es sp : List (DataW H)} (hk : Rows.uptoSmall H [d] = true) (hd : d = .slice es sp) : es.length + sp.length ≤ 1048576 := by
  subst hd
  have h : Rows.uptoBulkAll [DataW.slice es sp] ≤ 1048576 := of_decide_eq_true hk
  have h1 := bulk_count es
  have h2 := bulk_count sp
  simp only [Rows.uptoBulkAll, Rows.uptoBulk] at h
  omega
end Go.Proofs.Ytjagefchoggbaaa
