/-
  Copies of slices of ints, and cells of a slice of ints that the call owns. No condition.
-/
import Derived.Test.YteagmkhpfmiaiaaSoC
import Derived.Test.YteagmkhpfmiaiaaRmHi
namespace Go.Proofs.Yteagmkhpfmiaiaa
open Go.RowKit
set_option linter.unusedVariables false
set_option linter.unusedSimpArgs false

theorem grown_below1 {w w' : World} {o : Obj} (hg : (w.alloc o).grownBy w' (some w.heap.size)) : Below w.heap.size w w' :=
  (below1 w o).grown hg (by simp) (fun k hk => by injection hk with hk; omega)
/-- 'append([]int{}, ys...)': the literal lies already -/
theorem wpList_copyI {w : World} {ops : Array Oper} {rest : List Oper} {o : Oper} {a : Act} {Q : Exit → Act → World → Prop} (hgd : o.guard = none) (s x : Operand)
    (ho : o.op = .call { callee := .builtin .append, args := #[s, x], argTypes := #[23, 23] }) {ys : List Int} {A : Option Addr} {m c : Nat}
    (hs : a.eval s = .slice (some ⟨w.heap.size, 0, none⟩) 0 0) (hx : a.eval x = .slice A m c) (hr : RdI w w.heap.size A m ys) (hn : m < 1099511627776)
    (h : ∀ v' w', OwI w' w.heap.size v' ys → Below w.heap.size w w' → wpList Try.prog ops Q rest (a.put o.dst v') w') : wpList Try.prog ops Q (o :: rest) a (w.alloc (.cells #[] 3)) :=
  wpList_appH2 hgd s x ho hs hx (OwI.empty_lit w (Nat.le_refl _)) (hr.alloc (Nat.le_refl _) _) (by simp) (by simpa using hn) fun v' w' h1 h2 _ => h v' w' (by rw [List.nil_append] at h1; exact h1) (grown_below1 h2)

theorem OwI.formS {w : World} {lo n : Nat} {v : Value} {zs : List Int} (h : OwI w lo v zs) (hn : zs.length = n) (h0 : 0 < n) : ∃ b cap, v = .slice (some ⟨b, 0, none⟩) n cap ∧ lo ≤ b ∧ b < w.heap.size := by
  subst hn
  rcases h.2 with ⟨_, h1⟩ | ⟨g, cap, cur, e, hb, hg, _⟩
  · omega
  · exact ⟨g, cap, e, hb, (Array.getElem?_eq_some_iff.1 hg).1⟩

theorem OwI.atS {w : World} {lo b n cap : Nat} {zs : List Int} (h : OwI w lo (.slice (some ⟨b, 0, none⟩) n cap) zs) (hn : zs.length = n) {j : Nat} (hj : j < n) :
    w.cell? ⟨b, j, none⟩ = some (.int .i64 (zs.getD j 0)) ∧ w.frozen? ⟨b, j, none⟩ = false ∧ ∀ q, OwI (w.setCell ⟨b, j, none⟩ (.int .i64 q)) lo (.slice (some ⟨b, 0, none⟩) n cap) (zs.set j q) := by
  have ho : w.ownsRow lo 3 1 (.slice (some ⟨b, 0, none⟩) n cap) n (ints zs) := by
    rw [OwI, hn] at h; exact h
  refine ⟨?_, ho.frozenAt j, fun q => ?_⟩
  · rw [ho.cellAt j (by omega)]
    have : j < zs.length := by omega
    simp [ints, this]
  · have := (ho.stored j (.int .i64 q)).1
    rw [OwI, List.length_set, hn, ints, List.map_set]
    exact this

theorem OwI.cut {w : World} {lo : Nat} {v : Value} {zs : List Int} (h : OwI w lo v zs) {n : Nat} (hn : zs.length = n) : ∃ A c, v = .slice A n c ∧ RdI w w.heap.size A n zs := by
  subst hn; exact h.form

theorem OwI.stepS {w w' : World} {lo : Nat} {v : Value} {zs : List Int} (h : OwI w lo v zs) (hb : Below w.heap.size w w') : OwI w' lo v zs := own_of_block h fun g hg => hb.block g (h.lt g hg).2

theorem OwI.allocS {w : World} {B : Nat} {v : Value} {zs : List Int} (h : OwI w B v zs) (o : Obj) : OwI (w.alloc o) B v zs := h.stepS (below1 w o)
/-- a value as a slice of fifteen -/
theorem RdI.addr {w : World} {B n : Nat} {A : Option Addr} {zs : List Int} (h : RdI w B A n zs) (hn : 0 < n) : ∃ ad, A = some ad ∧ ad.block < B ∧ ∀ j, j < n → w.cell? (ad.add j) = some (.int .i64 (zs.getD j 0)) := by
  obtain ⟨ad, e, hb, hc⟩ := h.2 hn
  refine ⟨ad, e, hb, fun j hj => hc j _ ?_⟩
  have hl := h.len
  have : j < zs.length := by omega
  simp [ints, this]

theorem cellI {B : Nat} {w w' : World} {zs : List Int} {ad : Addr} {n : Nat} (h : Below B w w') (hb : ad.block < B) (hc : ∀ j, j < n → w.cell? (ad.add j) = some (.int .i64 (zs.getD j 0))) : ∀ j, j < n → w'.cell? (ad.add j) = some (.int .i64 (zs.getD j 0)) :=
  fun j hj => (h.cell (p := ad.add j) (by rw [block_of_add]; exact hb)).trans (hc j hj)

/-- One append of one int, what else lies told: the literal's block lies already. -/
theorem wpList_app1G {w : World} {ops : Array Oper} {rest : List Oper} {o : Oper} {a : Act} {Q : Exit → Act → World → Prop} (hgd : o.guard = none) (s x : Operand)
    (ho : o.op = .call { callee := .builtin .append, args := #[s, x], argTypes := #[23, 23] })
    (B : Nat) (z : Int) (v : Value) (zs : List Int) (hs : a.eval s = v) (hx : a.eval x = .slice (some ⟨w.heap.size, 0, none⟩) 1 1) (hown : OwI w B v zs) (hB : B ≤ w.heap.size) (hn : zs.length < 1099511627775)
    (h : ∀ v' w', OwI w' B v' (zs ++ [z]) → w.grownBy w' v.ownBlock → (v'.ownBlock = v.ownBlock ∨ ∃ g, v'.ownBlock = some g ∧ w.heap.size ≤ g) → wpList Try.prog ops Q rest (a.put o.dst v') w') :
    wpList Try.prog ops Q (o :: rest) a (w.alloc (.cells #[.int .i64 z] 3)) :=
  wpList_appH2 hgd s x ho hs hx (hown.allocS _) (Reads.of_own (c := 1) (OwI.one_lit w (Nat.le_refl w.heap.size) z)) (by simp; omega) (by omega) fun v' w' h1 h2 h3 =>
    h v' w' h1 ((World.grownBy_alloc w _ _).andThen h2 (fun j hj => .inr hj)) (h3.imp id fun e => ⟨_, e, by simp⟩)

theorem RdI.grownR {w w' : World} {B n : Nat} {A : Option Addr} {zs : List Int} {row : Option Nat} (h : RdI w B A n zs) (hg : w.grownBy w' row) (hB : B ≤ w.heap.size) (hne : ∀ ad, A = some ad → row ≠ some ad.block) : RdI w' B A n zs :=
  ⟨h.1, fun hn => by
    obtain ⟨ad, e, hb, hc⟩ := h.2 hn
    exact ⟨ad, e, hb, fun j u hu => (World.cell?_of_block (hg.block _ (by rw [block_of_add]; omega) (by rw [block_of_add]; exact fun e2 => hne ad e e2.symm))).trans (hc j u hu)⟩⟩
end Go.Proofs.Yteagmkhpfmiaiaa
