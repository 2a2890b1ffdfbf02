/-
  Slices of slices of ints that a call owns; one append to such a slice.
-/
import Derived.Test.YthnkilacknoklaaLl
namespace Go.Proofs.Ythnkilacknoklaa
open Go.RowKit

theorem info_ints : (Try.prog.info? 22).map (fun i => (i.zero, i.size, i.bytes)) = some (some (.slice none 0 0), 1, 24) := by kernel_rfl

abbrev OwV (w : World) (lo : Nat) (v : Value) (vals : List Value) : Prop := w.ownsRow lo 22 1 v vals.length vals
/-- v is an owned slice of owned slices that hold the lists zss -/
def OwLL (w : World) (lo : Nat) (v : Value) (zss : List (List Int)) : Prop :=
  ∃ vals : List Value, vals.length = zss.length ∧ OwV w lo v vals ∧ ∀ i, i < zss.length → OwI w lo (vals.getD i undef) (zss.getD i [])

section
variable {w w' : World} {lo lo' : Nat} {v u : Value} {vals : List Value} {zs : List Int} {zss : List (List Int)}

theorem ownV_of_block (h : OwV w lo v vals) (hb : ∀ g, v.ownBlock = some g → w'.heap[g]? = w.heap[g]?) : OwV w' lo v vals := by
  refine ⟨h.1, ?_⟩
  rcases h.2 with hn | ⟨g, cap, cur, e, hl, hg, hr⟩
  · exact .inl hn
  · exact .inr ⟨g, cap, cur, e, hl, (hb g (by rw [e]; rfl)).trans hg, hr⟩

theorem own_ne (h : OwV w lo v vals) (k : OwI w lo' u zs) {g : Nat} (hv : v.ownBlock = some g) (hu : u.ownBlock = some g) : False := by
  rcases h.2 with ⟨rfl, _⟩ | ⟨g1, cap, cur, rfl, hl, hg, hr⟩
  · cases hv
  · rcases k.2 with ⟨rfl, _⟩ | ⟨g2, cap2, cur2, rfl, hl2, hg2, hr2⟩
    · cases hu
    · injection hv with hv
      injection hu with hu
      have e1 : g1 = g := hv
      have e2 : g2 = g := hu
      subst e1; subst e2
      rw [hg] at hg2
      injection hg2 with e
      injection e with _ e
      exact absurd e (by decide)

theorem OwLL.keep (h : OwLL w lo v zss) (hb : ∀ g, lo ≤ g → g < w.heap.size → w'.heap[g]? = w.heap[g]?) : OwLL w' lo v zss := by
  obtain ⟨vals, hl, hv, hi⟩ := h
  exact ⟨vals, hl, ownV_of_block hv fun g hg => hb g (hv.lt g hg).1 (hv.lt g hg).2, fun i hi' => own_of_block (hi i hi') fun g hg => hb g ((hi i hi').lt g hg).1 ((hi i hi').lt g hg).2⟩

theorem OwLL.below (h : OwLL w lo v zss) (hb : Below w.heap.size w w') : OwLL w' lo v zss := h.keep fun g _ hg => hb.block g hg

theorem OwLL.pick {g : Nat} (h : OwLL w lo v zss) (hg : w.grownBy w' (some g)) (hl : g < lo) : OwLL w' lo v zss :=
  h.keep fun k hk hs => hg.block k hs (fun e => by injection e with e; omega)

theorem OwLL.quiet (h : OwLL w lo v zss) (hq : Qt w w') : OwLL w' lo v zss := by
  obtain ⟨q, rfl⟩ := hq
  exact h

theorem OwLL.more (h : OwLL w lo v zss) (hl : lo' ≤ lo) : OwLL w lo' v zss := by
  obtain ⟨vals, h1, hv, hi⟩ := h
  refine ⟨vals, h1, ⟨hv.1, ?_⟩, fun i hi' => (hi i hi').more hl⟩
  rcases hv.2 with hn | ⟨g, cap, cur, e, hb, hr⟩
  · exact .inl hn
  · exact .inr ⟨g, cap, cur, e, Nat.le_trans hl hb, hr⟩

theorem OwLL.empty_lit (w : World) (hB : lo ≤ w.heap.size) : OwLL (w.alloc (.cells #[] 22)) lo (.slice (some ⟨w.heap.size, 0, none⟩) 0 0) [] :=
  ⟨[], rfl, World.ownsRow_lit w #[] 0 hB (by decide) rfl, fun i hi => absurd hi (by simp)⟩

theorem OwLL.form (h : OwLL w lo v zss) : ∃ A c, v = .slice A zss.length c ∧ RdL w w.heap.size A zss.length zss := by
  obtain ⟨vals, hl, hv, hi⟩ := h
  have inner : ∀ i, i < zss.length → ∃ Ai ci, vals[i]? = some (.slice Ai (zss.getD i []).length ci) ∧ RdI w w.heap.size Ai (zss.getD i []).length (zss.getD i []) := by
    intro i hi'
    obtain ⟨Ai, ci, e, hr⟩ := (hi i hi').form
    refine ⟨Ai, ci, ?_, hr⟩
    have : i < vals.length := by omega
    rw [← e]; simp [this]
  rcases hv.2 with ⟨rfl, h0⟩ | ⟨g, cap, cur, rfl, hrest⟩
  · have hz : zss = [] := List.eq_nil_of_length_eq_zero (by omega)
    subst hz
    exact ⟨none, 0, rfl, rfl, fun i hi => absurd hi (by simp)⟩
  · refine ⟨_, cap, by rw [hl], rfl, fun i hi' => ?_⟩
    obtain ⟨Ai, ci, e, hr⟩ := inner i hi'
    exact ⟨_, Ai, ci, rfl, (hv.lt g rfl).2, hv.cells (g := g) rfl i _ e, hr⟩
end

/-- one append of an owned slice -/
theorem wpList_appSg {w : World} {ops : Array Oper} {rest : List Oper} {o : Oper} {a : Act} {Q : Exit → Act → World → Prop} (hgd : o.guard = none) (s x : Operand)
    (ho : o.op = .call { callee := .builtin .append, args := #[s, x], argTypes := #[57, 57] })
    (B : Nat) (z v : Value) (zs : List Int) (zss : List (List Int)) (hs : a.eval s = v) (hx : a.eval x = .slice (some ⟨w.heap.size, 0, none⟩) 1 1) (hown : OwLL w B v zss) (hz : OwI w B z zs) (hB : B ≤ w.heap.size) (hn : zss.length < 1099511627776)
    (h : ∀ v' w', OwLL w' B v' (zss ++ [zs]) → (w.alloc (.cells #[z] 22)).grownBy w' v.ownBlock → Below B w w' → wpList Try.prog ops Q rest (a.put o.dst v') w') :
    wpList Try.prog ops Q (o :: rest) a (w.alloc (.cells #[z] 22)) := by
  obtain ⟨i0, hi, hz0, hz1, hz2⟩ := info_parts info_ints
  obtain ⟨vals, hl, hv, hin⟩ := hown
  refine wpList_append_own (P := Try.prog) _ hgd s x 57 ho B 22 i0 (.slice none 0 0) 1 24 Try.underlying57 hi hz0 hz1 hz2 rfl (by decide) v vals.length vals hs (hv.alloc _) ⟨w.heap.size, 0, none⟩ 1 1 [z] hx rfl ?_ ?_ ?_ ?_ ?_ ?_
  · intro j u hj
    match j, hj with
    | 0, hj => simp at hj; subst hj; simp [Addr.add]
  · intro u hu
    simp at hu
    subst hu
    rcases hz.2 with ⟨rfl, _⟩ | ⟨g, cap, cur, rfl, _⟩ <;> rfl
  · unfold maxLen; omega
  · omega
  · simp; omega
  · intro v' w' hown' hg _
    have far : ∀ (u : Value) (us : List Int), OwI w B u us → OwI w' B u us := by
      intro u us hu
      refine own_of_block hu fun k hk => ?_
      have hlt := (hu.lt k hk).2
      rw [hg.block k (by simp; omega) (fun e => own_ne hv hu e.symm hk)]
      exact Below.heap_alloc w _ k hlt
    refine h v' w' ⟨vals ++ [z], by simp [hl], by rw [OwV, List.length_append]; exact hown', fun i hi' => ?_⟩ hg (((Below.refl B w).alloc hB _).grown hg (by simp; omega) (fun k hk => (hv.lt k hk).1))
    have hi2 : i < zss.length + 1 := by simpa using hi'
    by_cases e : i < zss.length
    · have e1 : (vals ++ [z]).getD i undef = vals.getD i undef := by
        have : i < vals.length := by omega
        simp [List.getElem?_append, this]
      have e2 : (zss ++ [zs]).getD i [] = zss.getD i [] := by simp [List.getElem?_append, e]
      rw [e1, e2]
      exact far _ _ (hin i e)
    · have ei : i = zss.length := by omega
      have e1 : (vals ++ [z]).getD i undef = z := by rw [ei, ← hl]; simp
      have e2 : (zss ++ [zs]).getD i [] = zs := by rw [ei]; simp
      rw [e1, e2]
      exact far _ _ hz

theorem wpList_appS {w : World} {ops : Array Oper} {rest : List Oper} {o : Oper} {a : Act} {Q : Exit → Act → World → Prop} (hgd : o.guard = none) (s x : Operand)
    (ho : o.op = .call { callee := .builtin .append, args := #[s, x], argTypes := #[57, 57] })
    (B : Nat) (z v : Value) (zs : List Int) (zss : List (List Int)) (hs : a.eval s = v) (hx : a.eval x = .slice (some ⟨w.heap.size, 0, none⟩) 1 1) (hown : OwLL w B v zss) (hz : OwI w B z zs) (hB : B ≤ w.heap.size) (hn : zss.length < 1099511627776)
    (h : ∀ v' w', OwLL w' B v' (zss ++ [zs]) → Below B w w' → wpList Try.prog ops Q rest (a.put o.dst v') w') :
    wpList Try.prog ops Q (o :: rest) a (w.alloc (.cells #[z] 22)) :=
  wpList_appSg hgd s x ho B z v zs zss hs hx hown hz hB hn fun v' w' h1 _ h3 => h v' w' h1 h3
/-- what else is owned stays owned behind an append to a slice of slices -/
theorem OwI.appV {w w' : World} {lo lo' : Nat} {v u : Value} {us : List Int} {xss : List (List Int)} (h : OwI w lo u us) (hv : OwLL w lo' v xss) (hg : w.grownBy w' v.ownBlock) : OwI w' lo u us := by
  obtain ⟨vals, _, hv', _⟩ := hv
  exact own_of_block h fun k hk => hg.block k (h.lt k hk).2 (fun e => own_ne hv' h e.symm hk)

theorem Lv.appV {w w' : World} {lo lo' hi : Nat} {v u : Value} {us : List Int} {xss : List (List Int)} (h : Lv w lo hi u us) (hv : OwLL w lo' v xss) (hg : w.grownBy w' v.ownBlock) : Lv w' lo hi u us :=
  ⟨⟨h.1.1.appV hv hg, h.1.2⟩, Nat.le_trans h.2 hg.size⟩

end Go.Proofs.Ythnkilacknoklaa
