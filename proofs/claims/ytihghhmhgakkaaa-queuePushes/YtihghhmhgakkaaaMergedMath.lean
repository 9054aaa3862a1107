/-
  Merging in plain mathematics: all mail of the heads, and what is out already.
-/
import Derived.Test.YtihghhmhgakkaaaHeapMath
namespace Go.Proofs.Ytihghhmhgakkaaa
set_option maxRecDepth 100000
open Go.ChangeShapes Go.WideShapes Go.ChangeAt Go.RowKit

/-- All mail of a head, and of heads. -/
def Hd.all (h : Hd) : List Ml := h.x :: h.r
def flatD (hs : List Hd) : List Ml := hs.flatMap Hd.all
/-- The rest of a head reads, and all of it is in order. -/
def Gd (w : World) (h : Hd) : Prop := MlR w (.slice h.a h.n h.c) h.r ∧ InM h.all
theorem flatD_perm {a b : List Hd} (h : a.Perm b) : (flatD a).Perm (flatD b) := h.flatMap_right _
theorem flatD_len : ∀ (hs : List Hd), hs.length ≤ (flatD hs).length
  | [] => Nat.le_refl _
  | h :: hs => by
    have := flatD_len hs
    unfold flatD at *
    rw [List.flatMap_cons, List.length_append, Hd.all, List.length_cons, List.length_cons]
    omega
theorem flatD_snoc (hs : List Hd) (h : Hd) : flatD (hs ++ [h]) = flatD hs ++ h.all := by unfold flatD; simp
theorem flatD_cons (hs : List Hd) (h : Hd) : flatD (h :: hs) = h.all ++ flatD hs := by unfold flatD; simp
theorem leM_of {x y : Hd} (h : leD x y) : leM x.x y.x = true := (leM_iff _ _).2 h
theorem all_ge {h : Hd} (hs : InM h.all) : ∀ z ∈ h.all, leM h.x z = true := by
  intro z hz
  unfold Hd.all at hz hs
  rcases List.mem_cons.1 hz with rfl | hz
  · exact leM_refl _
  · exact List.rel_of_pairwise_cons hs hz
/-- What is out is in order, and not behind what is not. -/
structure Mg (F out : List Ml) (hs : List Hd) : Prop where
  perm : (out ++ flatD hs).Perm F
  inO : InM out
  le : ∀ a ∈ out, ∀ b ∈ flatD hs, leM a b = true
theorem Mg.done {F out : List Ml} (h : Mg F out []) : out = sortM F := sortedM_uniq (by have := h.perm; simpa [flatD] using this) h.inO
theorem Mg.start {F : List Ml} {hs hr : List Hd} (h : flatD hs = F) (hp : hr.Perm hs) : Mg F [] hr := ⟨by rw [← h]; exact flatD_perm hp, List.Pairwise.nil, fun a ha => by simp at ha⟩
theorem Mg.heads {F out : List Ml} {hs : List Hd} (h : Mg F out hs) : out.length + hs.length ≤ F.length := by
  have := h.perm.length_eq
  rw [List.length_append] at this
  have := flatD_len hs
  omega
theorem Mg.snoc {F out : List Ml} {hs hr : List Hd} {x : Hd} (h : Mg F out hs) (hp : (x :: hr).Perm hs) (hle : ∀ y ∈ hs, leD x y) (hg : ∀ y ∈ hs, InM y.all) : InM (out ++ [x.x]) ∧ (∀ a ∈ out ++ [x.x], ∀ b ∈ flatD hs, leM a b = true) := by
  have hx : x ∈ hs := hp.subset (by simp)
  have hxf : x.x ∈ flatD hs := List.mem_flatMap.2 ⟨x, hx, by simp [Hd.all]⟩
  have hmin : ∀ b ∈ flatD hs, leM x.x b = true := fun b hb => by
    obtain ⟨y, hy, hb⟩ := List.mem_flatMap.1 hb
    exact leM_trans _ _ _ (leM_of (hle y hy)) (all_ge (hg y hy) b hb)
  refine ⟨?_, fun a ha b hb => ?_⟩
  · unfold InM
    rw [List.pairwise_append]
    exact ⟨h.inO, by simp, fun a ha b hb => by simp at hb; subst hb; exact h.le a ha _ hxf⟩
  · rcases List.mem_append.1 ha with ha | ha
    · exact h.le a ha b hb
    · simp at ha; subst ha; exact hmin b hb
/-- The least head is out, and its rest is another head. -/
theorem Mg.next {F out : List Ml} {hs hr hn : List Hd} {x y : Hd} (h : Mg F out hs) (hp : (x :: hr).Perm hs) (hle : ∀ y ∈ hs, leD x y) (hg : ∀ y ∈ hs, InM y.all) (hy : y.all = x.r) (hn2 : hn.Perm (hr ++ [y])) : Mg F (out ++ [x.x]) hn := by
  obtain ⟨h1, h2⟩ := h.snoc hp hle hg
  have e1 : (flatD hn).Perm (x.r ++ flatD hr) := by
    refine (flatD_perm hn2).trans ?_
    rw [flatD_snoc, hy]
    exact List.perm_append_comm
  have e2 : (flatD hs).Perm (x.x :: (x.r ++ flatD hr)) := by
    refine (flatD_perm hp.symm).trans ?_
    rw [flatD_cons]
    exact List.Perm.refl _
  refine ⟨?_, h1, fun a ha b hb => h2 a ha b ?_⟩
  · refine List.Perm.trans ?_ h.perm
    rw [List.append_assoc]
    refine List.Perm.append_left out ?_
    exact (List.Perm.cons x.x e1).trans e2.symm
  · exact e2.symm.subset (List.mem_cons_of_mem _ (e1.subset hb))
/-- The least head is out, and it has no rest. -/
theorem Mg.last {F out : List Ml} {hs hr : List Hd} {x : Hd} (h : Mg F out hs) (hp : (x :: hr).Perm hs) (hle : ∀ y ∈ hs, leD x y) (hg : ∀ y ∈ hs, InM y.all) (hx : x.r = []) : Mg F (out ++ [x.x]) hr := by
  obtain ⟨h1, h2⟩ := h.snoc hp hle hg
  have e2 : (flatD hs).Perm (x.x :: flatD hr) := by
    refine (flatD_perm hp.symm).trans ?_
    rw [flatD_cons, Hd.all, hx]
    exact List.Perm.refl _
  refine ⟨?_, h1, fun a ha b hb => h2 a ha b ?_⟩
  · refine List.Perm.trans ?_ h.perm
    rw [List.append_assoc]
    exact List.Perm.append_left out e2.symm
  · exact e2.symm.subset (List.mem_cons_of_mem _ hb)
end Go.Proofs.Ytihghhmhgakkaaa
