/-
  What the exact laws of the store do with puts and transactions: sizes, copies, comparisons, marks. No condition but lengths below 2^40.
-/
import Derived.Test.YteagmkhpfmiaiaaSoN
import Derived.Laws.MakeOwn
namespace Go.Proofs.Yteagmkhpfmiaiaa
open Go.RowKit
set_option linter.unusedVariables false
set_option linter.unusedSimpArgs false

abbrev two (a b : Int) : Value := .agg #[.int .i64 a, .int .i64 b]

theorem RdP.below {w w' : World} {A : Option Addr} {n : Nat} {zs : List (Int × Int)} (h : RdP w A n zs) (hb : Below w.heap.size w w') : RdP w' A n zs := h.step hb

theorem sameB_self (zs : List Int) : sameB zs zs = true := by simp [sameB]

theorem info_put : (Try.prog.info? 33).map (fun i => (i.zero, i.size, i.bytes)) = some (some (.agg #[.int .i64 0, .int .i64 0]), 2, 16) := by kernel_rfl

/-- v is a slice of stamps of the call's own -/
abbrev OwP (w : World) (B : Nat) (v : Value) (zs : List (Int × Int)) : Prop := w.ownsRow B 33 2 v zs.length (ptc zs)
section
variable {w w' : World} {B B' : Nat} {v : Value} {zs : List (Int × Int)}

theorem OwP.form (h : OwP w B v zs) : ∃ A c, v = .slice A zs.length c ∧ RdP w A zs.length zs ∧ zs.length ≤ c ∧ c ≤ 9223372036854775807 := by
  rcases h.2 with ⟨rfl, h0⟩ | ⟨g, cap, cur, rfl, hb, hh, hn, hm, hs, ht⟩
  · have hz : zs = [] := List.eq_nil_of_length_eq_zero h0
    subst hz
    exact ⟨none, 0, rfl, ⟨rfl, fun h => absurd h (by simp)⟩, Nat.le_refl _, by omega⟩
  · refine ⟨_, cap, rfl, ⟨rfl, fun _ => ⟨g, 0, rfl, (h.lt g rfl).2, fun j x hx => ?_⟩⟩, hn, by unfold maxLen at hm; omega⟩
    have hx2 := ptc_get zs j x hx
    have e0 := h.cells (g := g) rfl (j * 2) _ hx2.1
    have e1 := h.cells (g := g) rfl (j * 2 + 1) _ hx2.2
    have a0 : ∀ k, (⟨g, 0, none⟩ : Addr).add k = ⟨g, 0 + k, none⟩ := fun k => by
      unfold Addr.add; by_cases hk : k = 0
      · subst hk; rfl
      · simp [hk]
    rw [a0] at e0 e1
    exact ⟨e0, by rw [Nat.add_assoc]; exact e1⟩

theorem OwP.of_block (h : OwP w B v zs) (hb : ∀ g, v.ownBlock = some g → w'.heap[g]? = w.heap[g]?) : OwP w' B v zs := by
  refine ⟨h.1, ?_⟩
  rcases h.2 with hn | ⟨g, cap, cur, e, hl, hg, hr⟩
  · exact .inl hn
  · exact .inr ⟨g, cap, cur, e, hl, (hb g (by rw [e]; rfl)).trans hg, hr⟩

theorem OwP.below (h : OwP w B v zs) (hb : Below w.heap.size w w') : OwP w' B v zs := h.of_block fun g hg => hb.block g (h.lt g hg).2

theorem OwP.pick {g : Nat} (h : OwP w B v zs) (hg : w.grownBy w' (some g)) (hl : g < B) : OwP w' B v zs :=
  h.of_block fun k hk => hg.block k (h.lt k hk).2 (fun e => by
    have e' : k = g := by injection e
    have := (h.lt k hk).1
    omega)

theorem OwP.more (h : OwP w B v zs) (hB : B' ≤ B) : OwP w B' v zs := by
  refine ⟨h.1, ?_⟩
  rcases h.2 with hn | ⟨g, cap, cur, e, hb, hr⟩
  · exact .inl hn
  · exact .inr ⟨g, cap, cur, e, Nat.le_trans hB hb, hr⟩

theorem OwP.empty_lit (w : World) (hB : B ≤ w.heap.size) : OwP (w.alloc (.cells #[] 33)) B (.slice (some ⟨w.heap.size, 0, none⟩) 0 0) [] :=
  World.ownsRow_lit w #[] 0 hB (by decide) rfl
end

/-- One append of one stamp: 'out = append(out, x)'. The literal's block lies already. -/
theorem wpList_appPut {w : World} {ops : Array Oper} {rest : List Oper} {o : Oper} {a : Act} {Q : Exit → Act → World → Prop} (hgd : o.guard = none) (s x : Operand)
    (ho : o.op = .call { callee := .builtin .append, args := #[s, x], argTypes := #[24, 24] })
    (B : Nat) (t k : Int) (v : Value) (zs : List (Int × Int)) (hs : a.eval s = v) (hx : a.eval x = .slice (some ⟨w.heap.size, 0, none⟩) 1 1) (hown : OwP w B v zs) (hB : B ≤ w.heap.size) (hn : zs.length < 1099511627776)
    (h : ∀ v' w', OwP w' B v' (zs ++ [(t, k)]) → Below B w w' → wpList Try.prog ops Q rest (a.put o.dst v') w') :
    wpList Try.prog ops Q (o :: rest) a (w.alloc (.cells #[.int .i64 t, .int .i64 k] 33)) := by
  obtain ⟨i0, hi, hz0, hz1, hz2⟩ := info_parts info_put
  refine wpList_append_own (P := Try.prog) _ hgd s x 24 ho B 33 i0 (.agg #[.int .i64 0, .int .i64 0]) 2 16 Try.underlying24 hi hz0 hz1 hz2 rfl (by decide) v zs.length (ptc zs) hs (hown.alloc _) ⟨w.heap.size, 0, none⟩ 1 1 [.int .i64 t, .int .i64 k] hx rfl ?_ ?_ ?_ ?_ ?_ ?_
  · intro j u hj
    match j, hj with
    | 0, hj => simp at hj; subst hj; simp [Addr.add]
    | 1, hj => simp at hj; subst hj; simp [Addr.add]
  · intro u hu; simp at hu; rcases hu with rfl | rfl <;> rfl
  · unfold maxLen; omega
  · omega
  · simp; omega
  · intro v' w' hown' hg _
    refine h v' w' ?_ ?_
    · show w'.ownsRow B 33 2 v' (zs ++ [(t, k)]).length (ptc (zs ++ [(t, k)]))
      rw [ptc_app, List.length_append]
      exact hown'
    · exact ((Below.refl B w).alloc hB _).grown hg (by simp; omega) (fun k hk => (hown.lt k hk).1)


/-- a slice of stamps that came in: '.slice A n c' reads as zs -/
def RdPA (w : World) (A : Option Addr) (n : Nat) (zs : List (Int × Int)) : Prop :=
  zs.length = n ∧ (0 < n → ∃ ad, A = some ad ∧ ad.block < w.heap.size ∧ ∀ j x, zs[j]? = some x → w.cell? (ad.add (j * 2)) = some (.int .i64 x.1) ∧ w.cell? (ad.add (j * 2 + 1)) = some (.int .i64 x.2))

theorem RdPA.below {w w' : World} {A : Option Addr} {n : Nat} {zs : List (Int × Int)} (h : RdPA w A n zs) (hb : Below w.heap.size w w') : RdPA w' A n zs :=
  ⟨h.1, fun hn => by
    obtain ⟨ad, e, hl, hc⟩ := h.2 hn
    refine ⟨ad, e, Nat.lt_of_lt_of_le hl hb.size, fun j x hx => ⟨(hb.cell (by rw [block_of_add]; exact hl)).trans (hc j x hx).1, (hb.cell (by rw [block_of_add]; exact hl)).trans (hc j x hx).2⟩⟩⟩

theorem RdPA.at_ {w : World} {A : Option Addr} {n k : Nat} {zs : List (Int × Int)} (h : RdPA w A n zs) (hk : k < n) :
    ∃ ad t g, A = some ad ∧ Hid (zs[k]? = some (t, g)) ∧ w.cell? (ad.add (k * 2)) = some (.int .i64 t) ∧ w.cell? (ad.add (k * 2 + 1)) = some (.int .i64 g) ∧ w.cell? ⟨(ad.add (k * 2)).block, (ad.add (k * 2)).off + 1, none⟩ = some (.int .i64 g) := by
  obtain ⟨ad, e, hl, hc⟩ := h.2 (by omega)
  have hlen : k < zs.length := by rw [h.1]; exact hk
  have hx : zs[k]? = some zs[k] := List.getElem?_eq_getElem hlen
  exact ⟨ad, zs[k].1, zs[k].2, e, hx, (hc k _ hx).1, (hc k _ hx).2, by
    have e : (ad.add (k * 2)).add 1 = ⟨(ad.add (k * 2)).block, (ad.add (k * 2)).off + 1, none⟩ := rfl
    rw [← e, add_of_add]; exact (hc k _ hx).2⟩

theorem RdPA.of_pairs {w : World} {x : Addr} {n : Nat} (h : ∀ i, i < n → ∃ t g : Int, w.cell? (x.add (i * 2)) = some (.int .i64 t) ∧ w.cell? (x.add (i * 2 + 1)) = some (.int .i64 g)) : ∃ zs, RdPA w (some x) n zs := by
  refine ⟨(List.range n).map fun i => (intOf ((w.cell? (x.add (i * 2))).getD undef), intOf ((w.cell? (x.add (i * 2 + 1))).getD undef)), by simp, fun hn => ⟨x, rfl, ?_, fun j y hy => ?_⟩⟩
  · obtain ⟨t, g, e0, _⟩ := h 0 hn
    have := World.block_lt_of_cell? w _ e0
    rwa [block_of_add] at this
  · have hj : j < n := by
      have := (List.getElem?_eq_some_iff.1 hy).1
      simpa using this
    obtain ⟨t, g, e0, e1⟩ := h j hj
    rw [List.getElem?_map, List.getElem?_range hj] at hy
    simp only [Option.map_some, e0, e1, Option.getD_some, Option.some.injEq] at hy
    subst hy
    exact ⟨e0, e1⟩

theorem toList_madeCells_two (z : Value) (m : Nat) : (madeCells #[z, z] m).toList = List.replicate m z := by
  apply List.ext_getElem (by simp [madeCells])
  intro i h1 h2
  have : i % 2 = 0 ∨ i % 2 = 1 := by omega
  rcases this with h | h <;> simp [madeCells, h]

theorem ptc_zeros (n : Nat) : ptc (List.replicate n (0, 0)) = List.replicate (n * 2) (.int .i64 0) := by
  induction n with
  | zero => rfl
  | succ n ih =>
    rw [show (n + 1) * 2 = n * 2 + 1 + 1 by omega]
    simp [List.replicate_succ, ptc, ih]

theorem ptc_set : ∀ (l : List (Int × Int)) (k : Nat) (x : Int × Int), k < l.length → ptc (l.set k x) = ((ptc l).set (k * 2) (.int .i64 x.1)).set (k * 2 + 1) (.int .i64 x.2)
  | [], k, x, h => by simp at h
  | y :: l, 0, x, h => rfl
  | y :: l, k + 1, x, h => by
    have ih := ptc_set l k x (by simpa using h)
    rw [show (k + 1) * 2 = k * 2 + 1 + 1 by omega]
    simp [ptc, ih]

theorem OwP.set {w : World} {B g n c : Nat} {zs : List (Int × Int)} (h : OwP w B (.slice (some ⟨g, 0, none⟩) n c) zs) (hn : zs.length = n) (k : Nat) (hk : k < n) (x : Int × Int) :
    OwP ((w.setCell ⟨g, k * 2, none⟩ (.int .i64 x.1)).setCell ⟨g, k * 2 + 1, none⟩ (.int .i64 x.2)) B (.slice (some ⟨g, 0, none⟩) n c) (zs.set k x) := by
  subst hn
  have h1 := (h.stored (k * 2) (.int .i64 x.1)).1
  have h2 := (h1.stored (k * 2 + 1) (.int .i64 x.2)).1
  show World.ownsRow _ B 33 2 _ (zs.set k x).length (ptc (zs.set k x))
  rw [ptc_set zs k x hk, List.length_set]
  exact h2


/-! ### marks -/
def marksP (k : Int) (n : Nat) : List (Int × Int) := (List.range n).map fun (i : Nat) => (k + 2 * (i : Int), k + 2 * (i : Int) + 1)

theorem marksP_len (k : Int) (n : Nat) : (marksP k n).length = n := by simp [marksP]

theorem marksP_get {k : Int} {n i : Nat} (h : i < n) : (marksP k n)[i]? = some (k + 2 * (i : Int), k + 2 * (i : Int) + 1) := by simp [marksP, h]

theorem OwP.blk {w : World} {B n c : Nat} {A : Option Addr} {zs : List (Int × Int)} (h : OwP w B (.slice A n c) zs) (hn : 0 < zs.length) : ∃ g, A = some ⟨g, 0, none⟩ ∧ g < w.heap.size ∧ B ≤ g ∧ zs.length = n := by
  rcases h.2 with ⟨e, h0⟩ | ⟨g, cap, cur, e, hb, hh, hrest⟩
  · omega
  · injection e with e1 e2 e3
    exact ⟨g, e1, (Array.getElem?_eq_some_iff.1 hh).1, hb, e2.symm⟩

theorem grown_two {w wr : World} {g : Nat} (h : w.grownBy wr (some g)) (i : Nat) (u0 u1 : Value) : w.grownBy ((wr.setCell ⟨g, i, none⟩ u0).setCell ⟨g, i + 1, none⟩ u1) (some g) :=
  ⟨h.os, h.tape, h.output, by simp [World.setCell]; exact h.size, fun j hj hne => (Below.heap_setCell _ _ _ j (fun e => hne (by rw [e]))).trans ((Below.heap_setCell _ _ _ j (fun e => hne (by rw [e]))).trans (h.block j hj hne))⟩


end Go.Proofs.Yteagmkhpfmiaiaa
