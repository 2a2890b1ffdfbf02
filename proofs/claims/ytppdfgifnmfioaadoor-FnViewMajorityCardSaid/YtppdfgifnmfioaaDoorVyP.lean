/-
  Plain mathematics of two more laws over views: majorities of a view and of the next, a view of one member. No program, no condition.
-/
import Derived.Test.YtppdfgifnmfioaaDoorVyM
namespace Go.Proofs.YtppdfgifnmfioaaDoor
set_option linter.unusedVariables false
set_option linter.unusedSimpArgs false

section
variable {n x on : Int} {zs oz : List Int}

theorem low_maj (hv : vwB n zs = true) : majR n zs (zs.take (zs.length / 2 + 1)) = true := by
  obtain ⟨-, hp, hz⟩ := vwB_true.1 hv
  refine maj_true.2 ⟨fun y h => List.mem_of_mem_take h, hv, ⟨hz.1.sublist (List.take_sublist _ _), fun z h => hz.2 z (List.mem_of_mem_take h)⟩, ?_⟩
  rw [List.length_take]
  omega

theorem high_maj (hv : vwB n oz = true) : majR n oz (oz.drop (oz.length - (oz.length / 2 + 1))) = true := by
  obtain ⟨-, hp, hz⟩ := vwB_true.1 hv
  refine maj_true.2 ⟨fun y h => List.mem_of_mem_drop h, hv, ⟨hz.1.sublist (List.drop_sublist _ _), fun z h => hz.2 z (List.mem_of_mem_drop h)⟩, ?_⟩
  rw [List.length_drop]
  omega

theorem next_not (h : joinR n zs x = ((on, oz), true)) {k m : Nat} (hk : k = zs.length / 2 + 1) (hm : m = oz.length - (oz.length / 2 + 1)) (hall : ∀ j, j < k → hasB (oz.drop m) ((zs.take k).getD j 0) = false) : False := by
  obtain ⟨hv, hx, hv2, rfl, rfl⟩ := joinR_ok h
  obtain ⟨-, hp, hz⟩ := vwB_true.1 hv
  obtain ⟨-, -, ho⟩ := vwB_true.1 hv2
  obtain ⟨z, h1, h2⟩ := next_meet hz.1 ho.1 (fun z h => ins_mem.2 (.inl h)) (ins_len _ _) hp
  subst hk
  subst hm
  obtain ⟨j, hj, e⟩ := List.getElem_of_mem h1
  have hj' := hj
  rw [List.length_take] at hj'
  have := hall j (by omega)
  rw [show (zs.take (zs.length / 2 + 1)).getD j 0 = z by simp [List.getD_eq_getElem?_getD, List.getElem?_eq_getElem hj, e]] at this
  rw [hasB_iff.2 h2] at this
  cases this

theorem half_maj {k : Nat} (hk : 2 * k ≤ zs.length) : majR n zs (zs.take k) = false := by
  have : ¬ zs.length < 2 * (zs.take k).length := by rw [List.length_take]; omega
  simp [majR, this]
  omega

theorem full_maj (hv : vwB n zs = true) : majR n zs zs = true := by
  obtain ⟨-, hp, hz⟩ := vwB_true.1 hv
  exact maj_true.2 ⟨fun y h => h, hv, hz, by omega⟩

theorem empty_maj : majR n zs [] = false := by simp [majR]

theorem alone_leave {z : Int} (hv : vwB n zs = true) (hl : zs.length = 1) (hz : zs.getD 0 0 = z) : leaveR n zs z = ((0, []), false) := by
  match zs, hl, hz with
  | [y], _, hz =>
    have hz : y = z := by simpa using hz
    subst hz
    have hh : hasB [y] y = true := hasB_iff.2 (by simp)
    rw [leaveR_yes hv hh]
    have hl := del_len (zs := [y]) (m := y) (by simp)
    have : del [y] y = [] := List.length_eq_zero_iff.1 (by simpa using hl)
    rw [this]
    simp [vwR, vwB, vr0]

theorem maj_small {os : List Int} (hv : vwB n zs = true) (hs : os.Sublist zs) (h : majR n zs os = false) : 2 * os.length ≤ zs.length := by
  obtain ⟨-, hp, hz⟩ := vwB_true.1 hv
  rcases Nat.lt_or_ge zs.length (2 * os.length) with hl | hl
  · have := maj_true.2 ⟨fun y hy => hs.subset hy, hv, ⟨hz.1.sublist hs, fun z hy => hz.2 z (hs.subset hy)⟩, hl⟩
    rw [this] at h
    cases h
  · exact hl

theorem maj_meet {so os : List Int} (h1 : majR n zs so = true) (h2 : majR n zs os = true) (hall : ∀ j, j < so.length → hasB os (so.getD j 0) = false) : False := by
  obtain ⟨a1, a2, a3, a4⟩ := maj_true.1 h1
  obtain ⟨b1, b2, b3, b4⟩ := maj_true.1 h2
  obtain ⟨-, hp, hz⟩ := vwB_true.1 a2
  obtain ⟨z, hx, hy⟩ := meet hz.1 a3.1 b3.1 a1 b1 (by omega)
  obtain ⟨j, hj, e⟩ := List.getElem_of_mem hx
  have := hall j hj
  rw [show so.getD j 0 = z by simp [List.getD_eq_getElem?_getD, List.getElem?_eq_getElem hj, e], hasB_iff.2 hy] at this
  cases this

theorem sub_skip {os : List Int} {k : Nat} (h : os.Sublist (zs.take k)) : os.Sublist (zs.take (k + 1)) := by
  refine h.trans ?_
  rw [show zs.take k = (zs.take (k + 1)).take k by rw [List.take_take]; congr 1; omega]
  exact List.take_sublist _ _

theorem sub_put {os : List Int} {k : Nat} {z : Int} (h : os.Sublist (zs.take k)) (hk : k < zs.length) (hz : zs.getD k 0 = z) : (os ++ [z]).Sublist (zs.take (k + 1)) := by
  have hz' : zs[k] = z := by simpa [List.getD_eq_getElem?_getD, List.getElem?_eq_getElem hk] using hz
  rw [List.take_succ_eq_append_getElem hk, hz']
  exact h.append (List.Sublist.refl _)
end
end Go.Proofs.YtppdfgifnmfioaaDoor
