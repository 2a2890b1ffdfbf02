/-
  Slices of stamps that a call owns; one append to such a slice. No condition.
-/
import Derived.Test.YtbnmeedmeikepaaSmD
namespace Go.Proofs.Ytbnmeedmeikepaa
open Go.RowKit

theorem info_st : (Try.prog.info? 29).map (fun i => (i.zero, i.size, i.bytes)) = some (some (.agg #[.int .i64 0, .int .i64 0]), 2, 16) := by kernel_rfl
/-- the cells of a list of stamps -/
def stc : List St → List Value
  | [] => []
  | x :: l => .int .i64 x.1 :: .int .i64 x.2 :: stc l

theorem stc_len (l : List St) : (stc l).length = l.length * 2 := by
  induction l with
  | nil => rfl
  | cons x l ih => simp [stc, ih]; omega

theorem stc_app (l m : List St) : stc (l ++ m) = stc l ++ stc m := by
  induction l with
  | nil => rfl
  | cons x l ih => simp [stc, ih]

theorem stc_one (l : List St) : ∀ u ∈ stc l, u.oneCell' = true := by
  induction l with
  | nil => intro u hu; cases hu
  | cons x l ih =>
    intro u hu
    rcases List.mem_cons.1 hu with rfl | hu
    · rfl
    · rcases List.mem_cons.1 hu with rfl | hu
      · rfl
      · exact ih u hu

theorem stc_get : ∀ (l : List St) (j : Nat) (x : St), l[j]? = some x → (stc l)[j * 2]? = some (.int .i64 x.1) ∧ (stc l)[j * 2 + 1]? = some (.int .i64 x.2)
  | [], j, x, h => by simp at h
  | y :: l, 0, x, h => by simp at h; subst h; exact ⟨rfl, rfl⟩
  | y :: l, j + 1, x, h => by
    have := stc_get l j x (by simpa using h)
    rw [show (j + 1) * 2 = j * 2 + 1 + 1 by omega]
    exact this

/-- v is a slice of stamps of the call's own -/
abbrev OwS (w : World) (B : Nat) (v : Value) (zs : List St) : Prop := w.ownsRow B 29 2 v zs.length (stc zs)
section
variable {w w' : World} {B B' : Nat} {v : Value} {zs : List St}

theorem OwS.form (h : OwS w B v zs) : ∃ A c, v = .slice A zs.length c ∧ RdS w A zs.length zs ∧ zs.length ≤ c ∧ c ≤ 9223372036854775807 := by
  rcases h.2 with ⟨rfl, h0⟩ | ⟨g, cap, cur, rfl, hb, hh, hn, hm, hs, ht⟩
  · have hz : zs = [] := List.eq_nil_of_length_eq_zero h0
    subst hz
    exact ⟨none, 0, rfl, ⟨rfl, fun h => absurd h (by simp)⟩, Nat.le_refl _, by omega⟩
  · refine ⟨_, cap, rfl, ⟨rfl, fun _ => ⟨g, 0, rfl, (h.lt g rfl).2, fun j x hx => ?_⟩⟩, hn, by unfold maxLen at hm; omega⟩
    have hx2 := stc_get zs j x hx
    have e0 := h.cells (g := g) rfl (j * 2) _ hx2.1
    have e1 := h.cells (g := g) rfl (j * 2 + 1) _ hx2.2
    have a0 : ∀ k, (⟨g, 0, none⟩ : Addr).add k = ⟨g, 0 + k, none⟩ := fun k => by
      unfold Addr.add; by_cases hk : k = 0
      · subst hk; rfl
      · simp [hk]
    rw [a0] at e0 e1
    exact ⟨e0, by rw [Nat.add_assoc]; exact e1⟩

theorem OwS.of_block (h : OwS w B v zs) (hb : ∀ g, v.ownBlock = some g → w'.heap[g]? = w.heap[g]?) : OwS w' B v zs := by
  refine ⟨h.1, ?_⟩
  rcases h.2 with hn | ⟨g, cap, cur, e, hl, hg, hr⟩
  · exact .inl hn
  · exact .inr ⟨g, cap, cur, e, hl, (hb g (by rw [e]; rfl)).trans hg, hr⟩

theorem OwS.below (h : OwS w B v zs) (hb : Below w.heap.size w w') : OwS w' B v zs := h.of_block fun g hg => hb.block g (h.lt g hg).2

theorem OwS.pick {g : Nat} (h : OwS w B v zs) (hg : w.grownBy w' (some g)) (hl : g < B) : OwS w' B v zs :=
  h.of_block fun k hk => hg.block k (h.lt k hk).2 (fun e => by
    have e' : k = g := by injection e
    have := (h.lt k hk).1
    omega)

theorem OwS.more (h : OwS w B v zs) (hB : B' ≤ B) : OwS w B' v zs := by
  refine ⟨h.1, ?_⟩
  rcases h.2 with hn | ⟨g, cap, cur, e, hb, hr⟩
  · exact .inl hn
  · exact .inr ⟨g, cap, cur, e, Nat.le_trans hB hb, hr⟩

theorem OwS.empty_lit (w : World) (hB : B ≤ w.heap.size) : OwS (w.alloc (.cells #[] 29)) B (.slice (some ⟨w.heap.size, 0, none⟩) 0 0) [] :=
  World.ownsRow_lit w #[] 0 hB (by decide) rfl
end

end Go.Proofs.Ytbnmeedmeikepaa
