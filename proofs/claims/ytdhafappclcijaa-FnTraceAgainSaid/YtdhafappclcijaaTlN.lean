/-
  Slices of slices of ints of the law's own whose inner slices are another's: appends. No condition but lengths below 2^40.
-/
import Derived.Test.YtdhafappclcijaaTlM
import Derived.Maps.AppendAt
namespace Go.Proofs.Ytdhafappclcijaa
open Go.RowKit
set_option linter.unusedVariables false

/-- the values read as the lists; the inner rows lie below B -/
def InR (w : World) (B : Nat) (vals : List Value) (zss : List (List Int)) : Prop :=
  vals.length = zss.length ∧ ∀ (i : Nat) (zs : List Int), zss[i]? = some zs → ∃ (Ai : Option Addr) (ci : Nat), vals[i]? = some (.slice Ai zs.length ci) ∧ RdI w B Ai zs.length zs ∧ zs.length ≤ ci ∧ ci ≤ 9223372036854775807

theorem InR.keep {w w' : World} {B : Nat} {vals : List Value} {zss : List (List Int)} (h : InR w B vals zss) (hk : ∀ p : Addr, p.block < B → w'.cell? p = w.cell? p) : InR w' B vals zss :=
  ⟨h.1, fun i zs hz => by
    obtain ⟨Ai, ci, h1, h2, h3⟩ := h.2 i zs hz
    exact ⟨Ai, ci, h1, Reads.keep h2 hk, h3⟩⟩

theorem InR.app {w : World} {B : Nat} {v1 v2 : List Value} {z1 z2 : List (List Int)} (h : InR w B v1 z1) (k : InR w B v2 z2) : InR w B (v1 ++ v2) (z1 ++ z2) :=
  ⟨by rw [List.length_append, List.length_append, h.1, k.1], fun i zs hz => by
    by_cases hi : i < z1.length
    · rw [List.getElem?_append_left hi] at hz
      rw [List.getElem?_append_left (by rw [h.1]; exact hi)]
      exact h.2 i zs hz
    · rw [List.getElem?_append_right (by omega)] at hz
      rw [List.getElem?_append_right (by rw [h.1]; omega), h.1]
      exact k.2 _ zs hz⟩

theorem InR.one {w : World} {B : Nat} {vals : List Value} {zss : List (List Int)} (h : InR w B vals zss) : ∀ u ∈ vals, u.oneCell' = true := by
  intro u hu
  obtain ⟨i, hi, e⟩ := List.getElem_of_mem hu
  have hi2 : i < zss.length := by rw [← h.1]; exact hi
  obtain ⟨Ai, ci, h1, _⟩ := h.2 i zss[i] (List.getElem?_eq_getElem hi2)
  rw [List.getElem?_eq_getElem hi, e] at h1
  injection h1 with h1
  subst h1
  rfl
/-- v is an owned slice of slices that hold the lists zss, whose rows lie below lo -/
def OwA (w : World) (lo : Nat) (v : Value) (zss : List (List Int)) : Prop := ∃ vals, OwV w lo v vals ∧ InR w lo vals zss

theorem OwA.below {w w' : World} {lo : Nat} {v : Value} {zss : List (List Int)} (h : OwA w lo v zss) (hb : Below w.heap.size w w') (hlo : lo ≤ w.heap.size) : OwA w' lo v zss := by
  obtain ⟨vals, h1, h2⟩ := h
  exact ⟨vals, ownV_of_block h1 fun g hg => hb.block g (h1.lt g hg).2, h2.keep fun p hp => hb.cell (by omega)⟩

theorem OwA.empty_lit (w : World) : OwA (w.alloc (.cells #[] 25)) w.heap.size (.slice (some ⟨w.heap.size, 0, none⟩) 0 0) [] :=
  ⟨[], World.ownsRow_lit w #[] 0 (Nat.le_refl _) (by decide) rfl, rfl, fun i zs h => by simp at h⟩

theorem OwA.form {w : World} {lo : Nat} {v : Value} {zss : List (List Int)} (h : OwA w lo v zss) (hlo : lo ≤ w.heap.size) : ∃ A c, v = .slice A zss.length c ∧ RdT w w.heap.size A zss.length zss ∧ zss.length ≤ c ∧ c ≤ 9223372036854775807 := by
  obtain ⟨vals, hv, hin⟩ := h
  rcases hv.2 with ⟨rfl, h0⟩ | ⟨g, cap, cur, rfl, hb, hh, h1, h2, h3, h4⟩
  · have hz : zss = [] := List.eq_nil_of_length_eq_zero (by rw [← hin.1]; exact h0)
    subst hz
    exact ⟨none, 0, rfl, ⟨rfl, fun h => by simp at h⟩, Nat.le_refl _, by omega⟩
  · refine ⟨_, cap, by rw [hin.1], ⟨rfl, fun hn => ⟨_, rfl, (hv.lt g rfl).2, fun i zs hz => ?_⟩⟩, by rw [← hin.1]; exact h1, by simp only [maxLen] at h2; omega⟩
    obtain ⟨Ai, ci, e, hr, h5⟩ := hin.2 i zs hz
    exact ⟨Ai, ci, hv.cells (g := g) rfl i _ e, Reads.more hr hlo, h5⟩

theorem RdT.vals {w : World} {B n : Nat} {A : Option Addr} {zss : List (List Int)} (h : RdT w B A n zss) : ∃ vals, InR w B vals zss ∧ ∀ ad, A = some ad → ∀ j u, vals[j]? = some u → w.cell? (ad.add j) = some u := by
  rcases Nat.eq_zero_or_pos n with h0 | h0
  · have hz : zss = [] := List.eq_nil_of_length_eq_zero (by rw [h.1]; exact h0)
    subst hz
    exact ⟨[], ⟨rfl, fun i zs h => by simp at h⟩, fun ad _ j u hu => by simp at hu⟩
  · obtain ⟨ad, e, hb, hc⟩ := h.2 h0
    refine ⟨(List.range n).map fun i => (w.cell? (ad.add i)).getD undef, ⟨by simp [h.1], fun i zs hz => ?_⟩, fun ad' e' j u hu => ?_⟩
    · have hi : i < n := by rw [← h.1]; exact (List.getElem?_eq_some_iff.1 hz).1
      obtain ⟨Ai, ci, h1, h2⟩ := hc i zs hz
      exact ⟨Ai, ci, by simp [hi, h1], h2⟩
    · rw [e] at e'
      injection e' with e'
      subst e'
      have hj : j < n := by have := (List.getElem?_eq_some_iff.1 hu).1; simpa using this
      have hj2 : j < zss.length := by rw [h.1]; exact hj
      obtain ⟨Ai, ci, h1, _⟩ := hc j zss[j] (List.getElem?_eq_getElem hj2)
      simp [hj, h1] at hu
      rw [← hu]; exact h1

theorem run_appA_nil {w : World} {ty : TypeId} {B : Nat} {v : Value} {vals : List Value} (hown : OwV w B v vals) (c : Nat) :
    (Builtin.append_ #[23, 23] ty #[v, .slice none 0 c]).run Try.prog w = .ok v w := by
  obtain ⟨i0, hi, hz0, hz1, hz2⟩ := info_parts info_ints
  have hT : Try.prog.underlying 23 = some (.slice 25) := Try.underlying23
  rcases hown.2 with ⟨rfl, h0⟩ | ⟨g, cap, cur, rfl, _, _, hnc, _⟩
  · simp [Builtin.append_, run_underlying hT, sizeOf, typeInfo, hi, Builtin.lenOf, Builtin.firstCells]
  · simp [Builtin.append_, run_underlying hT, sizeOf, typeInfo, hi, Builtin.lenOf, Builtin.firstCells, hnc, storeCells]
/-- an append of a slice of slices to one of the law's own -/
theorem run_appA {w : World} {ty : TypeId} {B : Nat} {v : Value} {xss yss : List (List Int)} {A : Option Addr} {m c : Nat} {news : List Value} (hown : OwA w B v xss) (hin : InR w B news yss) (hm : news.length = m) (hA : A = none → m = 0)
    (hc : ∀ ad, A = some ad → ∀ j u, news[j]? = some u → w.cell? (ad.add j) = some u) (hB : B ≤ w.heap.size) (hn : xss.length + m < 1099511627776) :
    ∃ v' w', (Builtin.append_ #[23, 23] ty #[v, .slice A m c]).run Try.prog w = .ok v' w' ∧ OwA w' B v' (xss ++ yss) ∧ w.grownBy w' v.ownBlock ∧ Below B w w' := by
  have hT : Try.prog.underlying 23 = some (.slice 25) := Try.underlying23
  obtain ⟨vals, hv, hx⟩ := hown
  rcases A with _ | ad
  · have h0 := hA rfl
    subst h0
    have hy : yss = [] := List.eq_nil_of_length_eq_zero (by rw [← hin.1]; exact hm)
    subst hy
    exact ⟨v, w, run_appA_nil hv c, ⟨vals, hv, by rw [List.append_nil]; exact hx⟩, World.grownBy.refl w _, Below.refl _ _⟩
  · obtain ⟨i0, hi, hz0, hz1, hz2⟩ := info_parts info_ints
    obtain ⟨v', w', h1, h2, h3, _, h5⟩ := run_append_own_at (P := Try.prog) w B 23 ty 25 i0 (.slice none 0 0) 1 24 hT hi hz0 hz1 hz2 rfl (by decide) v vals.length vals hv ad m c news (by rw [hm]; simp) (hc ad rfl) hin.one (by unfold maxLen; have := hx.1; omega) (by have := hx.1; omega) hB
    have hbel := (Below.refl B w).grown h3 hB (fun j hj => (hv.lt j hj).1)
    refine ⟨v', w', h1, ⟨vals ++ news, by rw [OwV, List.length_append, hm]; exact h2, (hx.app hin).keep fun p hp => hbel.cell hp⟩, h3, hbel⟩

theorem wpList_appA {w : World} {ops : Array Oper} {rest : List Oper} {o : Oper} {a : Act} {Q : Exit → Act → World → Prop} (hgd : o.guard = none) (s x : Operand)
    (ho : o.op = .call { callee := .builtin .append, args := #[s, x], argTypes := #[23, 23] }) {B m c : Nat} {v : Value} {xss yss : List (List Int)} {A : Option Addr} (hs : a.eval s = v) (hx : a.eval x = .slice A m c)
    (hown : OwA w B v xss) (hr : RdT w B A m yss) (hB : B ≤ w.heap.size) (hn : xss.length + m < 1099511627776)
    (h : ∀ v' w', OwA w' B v' (xss ++ yss) → Below B w w' → wpList Try.prog ops Q rest (a.put o.dst v') w') : wpList Try.prog ops Q (o :: rest) a w := by
  obtain ⟨news, hin, hc⟩ := hr.vals
  obtain ⟨v', w', h1, h2, _, h4⟩ := run_appA (ty := o.type) (c := c) hown hin (by rw [hin.1, hr.1]) (fun e => by
    rcases Nat.eq_zero_or_pos m with h0 | h0
    · exact h0
    · obtain ⟨ad, h9, _⟩ := hr.2 h0
      rw [e] at h9; cases h9) hc hB hn
  exact Lib.wpList_append_run w hgd s x _ _ ho v _ hs hx v' w' h1 (h v' w' h2 h4)
/-- an append of one slice -/
theorem wpList_appA1 {w : World} {ops : Array Oper} {rest : List Oper} {o : Oper} {a : Act} {Q : Exit → Act → World → Prop} (hgd : o.guard = none) (s x : Operand)
    (ho : o.op = .call { callee := .builtin .append, args := #[s, x], argTypes := #[23, 23] }) {B n c : Nat} {v : Value} {xss : List (List Int)} {zs : List Int} {A : Option Addr} (hs : a.eval s = v) (hx : a.eval x = .slice (some ⟨w.heap.size, 0, none⟩) 1 1)
    (hown : OwA w B v xss) (hr : RdI w B A n zs) (hnc : n ≤ c) (hcc : c ≤ 9223372036854775807) (hB : B ≤ w.heap.size) (hn : xss.length < 1099511627775)
    (h : ∀ v' w', OwA w' B v' (xss ++ [zs]) → Below B w w' → wpList Try.prog ops Q rest (a.put o.dst v') w') : wpList Try.prog ops Q (o :: rest) a (w.alloc (.cells #[.slice A n c] 25)) := by
  have hb := (Below.refl w.heap.size w).alloc (Nat.le_refl _) (.cells #[.slice A n c] 25)
  obtain ⟨v', w', h1, h2, _, h4⟩ := run_appA (w := w.alloc (.cells #[.slice A n c] 25)) (ty := o.type) (A := some ⟨w.heap.size, 0, none⟩) (m := 1) (c := 1) (news := [.slice A n c]) (yss := [zs]) (hown.below hb hB)
    ⟨rfl, fun i us hz => by
      match i, hz with
      | 0, hz =>
        simp at hz
        subst hz
        exact ⟨A, c, by rw [hr.len]; rfl, by rw [hr.len]; exact Reads.alloc hr hB _, by rw [hr.len]; exact hnc, hcc⟩⟩ rfl (fun e => by cases e)
    (fun ad e j u hu => by
      injection e with e
      subst e
      match j, hu with
      | 0, hu =>
        simp at hu
        subst hu
        show (w.alloc (.cells #[.slice A n c] 25)).cell? ⟨w.heap.size, 0, none⟩ = _
        rw [cell_of_row _ w.heap.size 0 _ _ (0, 0) (heap_alloc_new w _)]
        rfl) (by simp; omega) (by omega)
  exact Lib.wpList_append_run _ hgd s x _ _ ho v _ hs hx v' w' h1 (h v' w' h2 ((hb.mono hB).trans h4))
end Go.Proofs.Ytdhafappclcijaa
