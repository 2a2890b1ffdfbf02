/-
  Appending to owned slices of puts and of ints within a region that draws its order. No condition but lengths below 2^40.
-/
import Derived.Test.YteagmkhpfmiaiaaSvA
import Derived.Test.YteagmkhpfmiaiaaRmHi
import Derived.Maps.AppendAt
import Derived.Deep.RegionLaw
import Derived.Deep.DeepCutAuto
namespace Go.Proofs.Yteagmkhpfmiaiaa
open Go.RowKit
set_option linter.unusedVariables false
set_option linter.unusedSimpArgs false

theorem und_put : Try.prog.underlying 24 = some (.slice 33) := Try.underlying24
/-- as plain cells -/
theorem RdP.cells_ {w : World} {A : Option Addr} {n : Nat} {zs : List (Int × Int)} (h : RdP w A n zs) : Reads w w.heap.size 2 A n (ptc zs) := by
  refine ⟨by rw [ptc_len, h.1], fun hn => ?_⟩
  obtain ⟨b, off, e, hl, hc⟩ := h.2 hn
  refine ⟨⟨b, off, none⟩, e, hl, fun j u hu => ?_⟩
  have hj : j < zs.length * 2 := by rw [← ptc_len]; exact (List.getElem?_eq_some_iff.1 hu).1
  have hq : j / 2 < zs.length := by omega
  have hx : zs[j / 2]? = some zs[j / 2] := List.getElem?_eq_getElem hq
  have hg := ptc_get zs (j / 2) _ hx
  have hcc := hc (j / 2) _ hx
  have hadd : (⟨b, off, none⟩ : Addr).add j = ⟨b, off + j, none⟩ := by
    unfold Addr.add; by_cases hk : j = 0
    · subst hk; rfl
    · simp [hk]
  rw [hadd]
  rcases (show j = j / 2 * 2 ∨ j = j / 2 * 2 + 1 by omega) with e | e
  · rw [e] at hu ⊢; rw [hg.1] at hu; injection hu with hu; rw [← hu]; exact hcc.1
  · rw [e] at hu ⊢; rw [hg.2] at hu; injection hu with hu; rw [← hu, ← Nat.add_assoc]; exact hcc.2

theorem run_appPv_nil {w : World} {T ty : TypeId} (hT : Try.prog.underlying T = some (.slice 33)) {B : Nat} {v : Value} {zs : List (Int × Int)} (hown : OwP w B v zs) (c : Nat) :
    (Builtin.append_ #[T, T] ty #[v, .slice none 0 c]).run Try.prog w = .ok v w := by
  obtain ⟨i0, hi, hz0, hz1, hz2⟩ := info_parts info_put
  rcases hown.2 with ⟨rfl, h0⟩ | ⟨g, cap, cur, rfl, _, _, hnc, _⟩
  · simp [Builtin.append_, run_underlying hT, sizeOf, typeInfo, hi, Builtin.lenOf, Builtin.firstCells]
  · simp [Builtin.append_, run_underlying hT, sizeOf, typeInfo, hi, Builtin.lenOf, Builtin.firstCells, hnc, storeCells]

theorem run_appPv {w : World} {T ty : TypeId} (hT : Try.prog.underlying T = some (.slice 33)) {B : Nat} {v : Value} {zs ys : List (Int × Int)} {A : Option Addr} {m c : Nat} (hown : OwP w B v zs) (hr : RdP w A m ys) (hB : B ≤ w.heap.size) (hn : zs.length + m < 1099511627776) :
    ∃ v' w', (Builtin.append_ #[T, T] ty #[v, .slice A m c]).run Try.prog w = .ok v' w' ∧ OwP w' B v' (zs ++ ys) ∧ w.grownBy w' v.ownBlock ∧ (v'.ownBlock = v.ownBlock ∨ v'.ownBlock = some w.heap.size) := by
  rcases A with _ | ad
  · have hm : m = 0 := by
      rcases Nat.eq_zero_or_pos m with h0 | h0
      · exact h0
      · obtain ⟨b, off, h, _⟩ := hr.2 h0
        cases h
    subst hm
    have hy : ys = [] := List.eq_nil_of_length_eq_zero hr.len
    subst hy
    exact ⟨v, w, run_appPv_nil hT hown c, by rw [List.append_nil]; exact hown, World.grownBy.refl w _, .inl rfl⟩
  · obtain ⟨i0, hi, hz0, hz1, hz2⟩ := info_parts info_put
    have hl : (ptc ys).length = m * 2 := by rw [ptc_len, hr.len]
    have hc : ∀ j u, (ptc ys)[j]? = some u → w.cell? (ad.add j) = some u := by
      intro j u hu
      have hj : j < m * 2 := by rw [← hl]; exact (List.getElem?_eq_some_iff.1 hu).1
      obtain ⟨ad', e, _, hcc⟩ := hr.cells_.2 (by omega)
      injection e with e
      subst e
      exact hcc j u hu
    obtain ⟨v', w', h1, h2, h3, _, h5⟩ := run_append_own_at (P := Try.prog) w B T ty 33 i0 (.agg #[.int .i64 0, .int .i64 0]) 2 16 hT hi hz0 hz1 hz2 rfl (by decide) v zs.length (ptc zs) hown ad m c (ptc ys) hl hc (ptc_one ys) (by unfold maxLen; omega) (by omega) hB
    refine ⟨v', w', h1, ?_, h3, h5⟩
    show w'.ownsRow B 33 2 v' (zs ++ ys).length (ptc (zs ++ ys))
    rw [ptc_app, List.length_append, hr.len]
    exact h2
section
variable {w : World} {T : TypeId} {ops : Array Oper} {o : Oper} {a : Act} {K : Act → World → Prop} {Q : Exit → Act → World → Prop}

theorem wp_appPv (hT : Try.prog.underlying T = some (.slice 33)) (s x : Operand)
    (ho : o.op = .call { callee := .builtin .append, args := #[s, x], argTypes := #[T, T] }) {B : Nat} {v : Value} {zs ys : List (Int × Int)} {A : Option Addr} {m c : Nat} (hs : a.eval s = v) (hx : a.eval x = .slice A m c) (hown : OwP w B v zs) (hr : RdP w A m ys) (hB : B ≤ w.heap.size) (hn : zs.length + m < 1099511627776)
    (h : ∀ v' w', OwP w' B v' (zs ++ ys) → w.grownBy w' v.ownBlock → (v'.ownBlock = v.ownBlock ∨ v'.ownBlock = some w.heap.size) → K (a.put o.dst v') w') : o.wp Try.prog a w K Q := by
  obtain ⟨v', w', h1, h2, h3, h4⟩ := run_appPv (ty := o.type) (c := c) hT hown hr hB hn
  unfold Oper.wp execOp
  simp only [ho, resolve, invoke, builtin, Sem.run_bind, Sem.run_pure, Result.andThen_ok, List.map_toArray, List.map_cons, List.map_nil, hs, hx, h1]
  exact h v' w' h2 h3 h4

theorem wpList_appPv2 {rest : List Oper} (hgd : o.guard = none) (hT : Try.prog.underlying T = some (.slice 33)) (s x : Operand)
    (ho : o.op = .call { callee := .builtin .append, args := #[s, x], argTypes := #[T, T] }) {B : Nat} {v : Value} {zs ys : List (Int × Int)} {A : Option Addr} {m c : Nat} (hs : a.eval s = v) (hx : a.eval x = .slice A m c) (hown : OwP w B v zs) (hr : RdP w A m ys) (hB : B ≤ w.heap.size) (hn : zs.length + m < 1099511627776)
    (h : ∀ v' w', OwP w' B v' (zs ++ ys) → w.grownBy w' v.ownBlock → (v'.ownBlock = v.ownBlock ∨ v'.ownBlock = some w.heap.size) → wpList Try.prog ops Q rest (a.put o.dst v') w') : wpList Try.prog ops Q (o :: rest) a w :=
  wpList_plain hgd fun _ hK => wp_appPv hT s x ho hs hx hown hr hB hn fun v' w' h1 h2 h3 => hK _ _ (h v' w' h1 h2 h3)

theorem step_appPv {E : Prop} (hgd : o.guard = none) (hT : Try.prog.underlying T = some (.slice 33)) (s x : Operand)
    (ho : o.op = .call { callee := .builtin .append, args := #[s, x], argTypes := #[T, T] }) {B : Nat} {v : Value} {zs ys : List (Int × Int)} {A : Option Addr} {m c : Nat} (hs : a.eval s = v) (hx : a.eval x = .slice A m c) (hown : OwP w B v zs) (hr : RdP w A m ys) (hB : B ≤ w.heap.size) (hn : zs.length + m < 1099511627776)
    (h : ∀ v' w', OwP w' B v' (zs ++ ys) → w.grownBy w' v.ownBlock → (v'.ownBlock = v.ownBlock ∨ v'.ownBlock = some w.heap.size) → K (a.put o.dst v') w') :
    if Region.wanted o (yielded ops a.tmps) = true then Oper.wp Try.prog o a w K Q else E := by
  have hw : Region.wanted o (yielded ops a.tmps) = true := by simp [Region.wanted, hgd]
  rw [if_pos hw]
  exact wp_appPv hT s x ho hs hx hown hr hB hn h
end

/-- a literal of one stamp -/
theorem RdP.of_cs {w : World} {b : Nat} {t k : Int} (h : Cs w b 33 #[.int .i64 t, .int .i64 k]) : RdP w (some ⟨b, 0, none⟩) 1 [(t, k)] :=
  ⟨rfl, fun _ => ⟨b, 0, rfl, h.lt, fun j x hx => by
    match j, hx with
    | 0, hx =>
      simp at hx
      subst hx
      exact ⟨h.cell 0, h.cell 1⟩⟩⟩

theorem OwP.lit0 (w : World) {b : Nat} (h : w.heap.size = b) : OwP (w.alloc (.cells #[] 33)) b (.slice (some ⟨b, 0, none⟩) 0 0) [] := by
  subst h; exact OwP.empty_lit w (Nat.le_refl _)

theorem step_appV {w : World} {ops : Array Oper} {o : Oper} {a : Act} {K : Act → World → Prop} {Q : Exit → Act → World → Prop} {E : Prop} (hgd : o.guard = none) (s x : Operand)
    (ho : o.op = .call { callee := .builtin .append, args := #[s, x], argTypes := #[23, 23] }) {B : Nat} {v : Value} {zs ys : List Int} {A : Option Addr} {m c : Nat} (hs : a.eval s = v) (hx : a.eval x = .slice A m c) (hown : OwI w B v zs) (hr : ∃ Br, RdI w Br A m ys) (hB : B ≤ w.heap.size) (hn : zs.length + m < 1099511627776)
    (h : ∀ v' w', OwI w' B v' (zs ++ ys) → w.grownBy w' v.ownBlock → (v'.ownBlock = v.ownBlock ∨ v'.ownBlock = some w.heap.size) → K (a.put o.dst v') w') :
    if Region.wanted o (yielded ops a.tmps) = true then Oper.wp Try.prog o a w K Q else E := by
  have hw : Region.wanted o (yielded ops a.tmps) = true := by simp [Region.wanted, hgd]
  rw [if_pos hw]
  obtain ⟨Br, hr⟩ := hr
  exact wp_appH s x ho hs hx hown hr hB hn h

theorem RdI.of_cs {w : World} {b : Nat} {x : Int} (h : Cs w b 3 #[.int .i64 x]) : RdI w (b + 1) (some ⟨b, 0, none⟩) 1 [x] := by
  refine ⟨by simp, fun _ => ⟨_, rfl, by simp, fun j u hu => ?_⟩⟩
  match j, hu with
  | 0, hu =>
    simp at hu; subst hu
    have := h.cell 0
    simpa [Addr.add] using this
end Go.Proofs.Yteagmkhpfmiaiaa
