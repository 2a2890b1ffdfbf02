/-
  More mathematics of the laws of chapter 11. No program, no condition.
-/
import Derived.Test.YthfbchnhjhfpaaaGnM
namespace Go.Proofs.Ythfbchnhjhfpaaa

/-- does a list have an entry of the message? -/
def hasM (l : List En) (m : Int) : Bool := l.any fun e => e.1 == m

theorem hasM_true {l : List En} {e : En} {m : Int} (he : e ∈ l) (hm : e.1 = m) : hasM l m = true := by
  unfold hasM; rw [List.any_eq_true]; exact ⟨e, he, by simp [hm]⟩

theorem hasM_false {l : List En} {m : Int} (h : ∀ e ∈ l, e.1 ≠ m) : hasM l m = false := by
  unfold hasM; rw [List.any_eq_false]; intro e he; simp [h e he]

theorem hasM_snoc {l : List En} {j : Nat} {x : En} (hx : l[j]? = some x) (m : Int) : hasM (l.take (j + 1)) m = (hasM (l.take j) m || (x.1 == m)) := by
  unfold hasM; rw [take_snocE hx, List.any_append]; simp

theorem st_all {g : Gp} {m : Int} {x : En} {b : Bool} (h : stR g m = (x, b)) (hv : vdB g = true) : (∀ e, e ∈ g.P ∨ e ∈ g.D → e.1 = m → e = x) ∧ b = (hasM g.P m || hasM g.D m) := by
  have hvd := vdB_true.1 hv
  unfold stR at h
  rw [if_pos hv] at h
  have key : ∀ e, e ∈ g.P ∨ e ∈ g.D → e.1 = m → stA g m = (e, true) := fun e he hm => by
    subst hm
    exact he.elim (stA_P hvd) (stA_D hvd)
  refine ⟨fun e he hm => ?_, ?_⟩
  · have := key e he hm
    rw [h] at this
    simp only [Prod.mk.injEq] at this
    exact this.1.symm
  · rcases stA_cases (g := g) m with ⟨e, he, e1, hs⟩ | ⟨hP, e, he, e1, hs⟩ | ⟨hP, hD, hs⟩
    · rw [hs] at h; simp only [Prod.mk.injEq] at h
      rw [← h.2, hasM_true he e1]; rfl
    · rw [hs] at h; simp only [Prod.mk.injEq] at h
      rw [← h.2, hasM_true he e1]; simp
    · rw [hs] at h; simp only [Prod.mk.injEq] at h
      rw [← h.2, hasM_false hP, hasM_false hD]; rfl

theorem fo_D {g : Gp} (h : Vd g) (q : Nat) (x y : En) (hx : g.D[q]? = some x) (hy : g.D[q + 1]? = some y) : stL x.2.1.1 x.2.1.2 y.2.1.1 y.2.1.2 = true ∧ y.2.2 = true := by
  have mx := List.mem_of_getElem? hx
  have my := List.mem_of_getElem? hy
  have hp := h.D.2
  obtain ⟨h1, e1⟩ := List.getElem?_eq_some_iff.1 hx
  obtain ⟨h2, e2⟩ := List.getElem?_eq_some_iff.1 hy
  have := (List.pairwise_iff_getElem.1 hp q (q + 1) h1 h2 (by omega)).1
  rw [e1, e2] at this
  exact ⟨stL_of (okE_true.1 (h.ok (.inl mx))).2.1 (okE_true.1 (h.ok (.inl my))).2.1 this, h.2.2.2.2.1 y my⟩

theorem fo_P {g : Gp} (h : Vd g) (q : Nat) (x y : En) (hx : g.D[q]? = some x) (hy : y ∈ g.P) : stL x.2.1.1 x.2.1.2 y.2.1.1 y.2.1.2 = true := by
  have mx := List.mem_of_getElem? hx
  exact stL_of (okE_true.1 (h.ok (.inl mx))).2.1 (okE_true.1 (h.ok (.inr hy))).2.1 (h.lt mx hy).1
end Go.Proofs.Ythfbchnhjhfpaaa
