/-
  What may turn and what lies still: a frame over a set of blocks; a block that is known whole. No condition.
-/
import Derived.Test.YteagmkhpfmiaiaaMgA
import Derived.Test.YteagmkhpfmiaiaaBw
namespace Go.Proofs.Yteagmkhpfmiaiaa
open Go.RowKit
set_option linter.unusedVariables false

/-- of the blocks that lie already only those of S may turn -/
structure Kp (S : Nat → Prop) (w w' : World) : Prop where
  os : w'.os = w.os
  tape : w'.tape = w.tape
  output : w'.output = w.output
  size : w.heap.size ≤ w'.heap.size
  block : ∀ k, k < w.heap.size → ¬ S k → w'.heap[k]? = w.heap[k]?
section
variable {S S' : Nat → Prop} {w w' w'' : World}

theorem Kp.refl (S : Nat → Prop) (w : World) : Kp S w w := ⟨rfl, rfl, rfl, Nat.le_refl _, fun _ _ _ => rfl⟩

theorem Kp.of_below (h : Below w.heap.size w w') : Kp S w w' := ⟨h.os, h.tape, h.output, h.size, fun k hk _ => h.block k hk⟩

theorem Kp.trans (h : Kp S w w') (k : Kp S' w' w'') (hS : ∀ i, i < w.heap.size → S' i → S i) : Kp S w w'' :=
  ⟨k.os.trans h.os, k.tape.trans h.tape, k.output.trans h.output, Nat.le_trans h.size k.size, fun i h1 h2 => (k.block i (Nat.lt_of_lt_of_le h1 h.size) (fun h3 => h2 (hS i h1 h3))).trans (h.block i h1 h2)⟩

theorem Kp.then (h : Kp S w w') (k : Kp S w' w'') : Kp S w w'' := h.trans k fun _ _ h => h

theorem Kp.mono (h : Kp S w w') (hS : ∀ i, S i → S' i) : Kp S' w w' := ⟨h.os, h.tape, h.output, h.size, fun i h1 h2 => h.block i h1 (fun h3 => h2 (hS i h3))⟩

theorem Kp.below_ (h : Kp S w w') (k : Below w'.heap.size w' w'') : Kp S w w'' := h.then (Kp.of_below k)

theorem Kp.alloc (h : Kp S w w') (o : Obj) : Kp S w (w'.alloc o) := h.below_ (below1 w' o)

theorem Kp.drew (h : Kp S w w') : Kp S w w'.drew := ⟨h.os, h.tape, h.output, h.size, h.block⟩

theorem Kp.drewN (h : Kp S w w') (n : Nat) : Kp S w (w'.drewN n) := ⟨h.os, h.tape, h.output, h.size, h.block⟩

theorem Kp.setCell (h : Kp S w w') {p : Addr} (hp : w.heap.size ≤ p.block ∨ S p.block) (u : Value) : Kp S w (w'.setCell p u) :=
  ⟨h.os, h.tape, h.output, by rw [show (w'.setCell p u).heap.size = w'.heap.size by simp [World.setCell]]; exact h.size, fun i h1 h2 => (Below.heap_setCell w' p u i (fun e => by
    subst e
    rcases hp with hp | hp
    · omega
    · exact h2 hp)).trans (h.block i h1 h2)⟩

theorem Kp.grown (h : Kp S w w') {row : Option Nat} (hg : w'.grownBy w'' row) (hr : ∀ k, row = some k → w.heap.size ≤ k ∨ S k) : Kp S w w'' :=
  ⟨hg.os.trans h.os, hg.tape.trans h.tape, hg.output.trans h.output, Nat.le_trans h.size hg.size, fun i h1 h2 => (hg.block i (Nat.lt_of_lt_of_le h1 h.size) (fun e => by
    rcases hr i e.symm with h3 | h3
    · omega
    · exact h2 h3)).trans (h.block i h1 h2)⟩

theorem Kp.base {B : Nat} (h : Kp S w w') (hB : B ≤ w.heap.size) (hS : ∀ i, S i → B ≤ i) : Below B w w' :=
  ⟨h.os, h.tape, h.output, h.size, fun k hk => h.block k (by omega) (fun h => by have := hS k h; omega)⟩

theorem Kp.cell (h : Kp S w w') {p : Addr} (h1 : p.block < w.heap.size) (h2 : ¬ S p.block) : w'.cell? p = w.cell? p := World.cell?_of_block (h.block _ h1 h2)
end

/-- a block that is known whole -/
def Cs (w : World) (b : Nat) (T : TypeId) (cs : Array Value) : Prop := w.heap[b]? = some (.cells cs T (0, 0))
section
variable {S : Nat → Prop} {w w' : World} {b : Nat} {T : TypeId} {cs : Array Value}

theorem Cs.lt (h : Cs w b T cs) : b < w.heap.size := (Array.getElem?_eq_some_iff.1 h).1

theorem Cs.cell (h : Cs w b T cs) (i : Nat) : w.cell? ⟨b, i, none⟩ = cs[i]? := cell_of_row w b i _ _ (0, 0) h

theorem Cs.frozen (h : Cs w b T cs) (i : Nat) : w.frozen? ⟨b, i, none⟩ = false := frozen_of_row w b i _ _ h

theorem Cs.new (w : World) (T : TypeId) (cs : Array Value) : Cs (w.alloc (.cells cs T)) w.heap.size T cs := heap_alloc_new w _

theorem Cs.set (h : Cs w b T cs) (i : Nat) (u : Value) : Cs (w.setCell ⟨b, i, none⟩ u) b T (cs.setIfInBounds i u) := by
  unfold Cs; rw [heap_setCell_same w b i _ _ _ h]

theorem Cs.kp (h : Cs w b T cs) (hk : Kp S w w') (hb : ¬ S b) : Cs w' b T cs := (hk.block b h.lt hb).trans h

theorem Cs.below {B : Nat} (h : Cs w b T cs) (hk : Below B w w') (hB : b < B) : Cs w' b T cs := (hk.block b hB).trans h

theorem Cs.step (h : Cs w b T cs) (hk : Below w.heap.size w w') : Cs w' b T cs := h.below hk h.lt

theorem Cs.alloc (h : Cs w b T cs) (o : Obj) : Cs (w.alloc o) b T cs := h.step (below1 w o)

theorem Cs.drew (h : Cs w b T cs) : Cs w.drew b T cs := h

theorem Cs.far (h : Cs w b T cs) {p : Addr} (hne : b ≠ p.block) (u : Value) : Cs (w.setCell p u) b T cs := (Below.heap_setCell w p u b hne).trans h
end

/-- a block of one cell -/
def Bx (w : World) (b : Nat) (T : TypeId) (v : Value) : Prop := w.heap[b]? = some (.cells #[v] T (0, 0))
section
variable {S : Nat → Prop} {w w' : World} {b : Nat} {T : TypeId} {v u : Value}

theorem Bx.lt (h : Bx w b T v) : b < w.heap.size := (Array.getElem?_eq_some_iff.1 h).1

theorem Bx.cell (h : Bx w b T v) : w.cell? ⟨b, 0, none⟩ = some v := by rw [cell_of_row w b 0 _ _ (0, 0) h]; rfl

theorem Bx.frozen (h : Bx w b T v) : w.frozen? ⟨b, 0, none⟩ = false := frozen_of_row w b 0 _ _ h

theorem Bx.new (w : World) (T : TypeId) (v : Value) : Bx (w.alloc (.cells #[v] T)) w.heap.size T v := heap_alloc_new w _

theorem Bx.set (h : Bx w b T v) (u : Value) : Bx (w.setCell ⟨b, 0, none⟩ u) b T u := by
  unfold Bx; rw [heap_setCell_same w b 0 _ _ _ h]; rfl

theorem Bx.kp (h : Bx w b T v) (hk : Kp S w w') (hb : ¬ S b) : Bx w' b T v := (hk.block b h.lt hb).trans h

theorem Bx.below (h : Bx w b T v) (hk : Below w.heap.size w w') : Bx w' b T v := (hk.block b h.lt).trans h

theorem Bx.drew (h : Bx w b T v) : Bx w.drew b T v := h

theorem Bx.far (h : Bx w b T v) {p : Addr} (hne : b ≠ p.block) (u : Value) : Bx (w.setCell p u) b T v := (Below.heap_setCell w p u b hne).trans h
end

theorem Cs.new' (w : World) (T : TypeId) (cs : Array Value) {b : Nat} (h : w.heap.size = b) : Cs (w.alloc (.cells cs T)) b T cs := by subst h; exact Cs.new w T cs

theorem Cs.four {w : World} {b : Nat} {T : TypeId} {a0 a1 a2 a3 : Value} (h : Cs w b T #[a0, a1, a2, a3]) :
    w.cell? ⟨b, 0, none⟩ = some a0 ∧ w.cell? ⟨b, 1, none⟩ = some a1 ∧ w.cell? ⟨b, 2, none⟩ = some a2 ∧ w.cell? ⟨b, 3, none⟩ = some a3 := ⟨h.cell 0, h.cell 1, h.cell 2, h.cell 3⟩

theorem Cs.free4 {w : World} {b : Nat} {T : TypeId} {cs : Array Value} (h : Cs w b T cs) :
    w.frozen? ⟨b, 0, none⟩ = false ∧ w.frozen? ⟨b, 1, none⟩ = false ∧ w.frozen? ⟨b, 2, none⟩ = false ∧ w.frozen? ⟨b, 3, none⟩ = false := ⟨h.frozen 0, h.frozen 1, h.frozen 2, h.frozen 3⟩
section
variable {S : Nat → Prop} {w w' w'' : World}

theorem Kp.set2 (h : Kp S w w') {b : Nat} (hb : S b) (u0 u1 : Value) : Kp S w ((w'.setCell ⟨b, 0, none⟩ u0).setCell ⟨b, 1, none⟩ u1) := (h.setCell (.inr hb) _).setCell (.inr hb) _

theorem Cs.two {b : Nat} {T : TypeId} {a0 a1 : Value} (h : Cs w b T #[a0, a1]) : w.cell? ⟨b, 0, none⟩ = some a0 ∧ w.cell? ⟨b, 1, none⟩ = some a1 ∧ w.frozen? ⟨b, 0, none⟩ = false ∧ w.frozen? ⟨b, 1, none⟩ = false := ⟨h.cell 0, h.cell 1, h.frozen 0, h.frozen 1⟩
end

/-- rows of different types lie in different blocks -/
theorem own_type {w : World} {lo lo' n m s1 s2 : Nat} {t1 t2 : TypeId} {v u : Value} {xs ys : List Value} (h : w.ownsRow lo t1 s1 v n xs) (k : w.ownsRow lo' t2 s2 u m ys) (hne : t1 ≠ t2) : ∀ b, v.ownBlock = some b → u.ownBlock ≠ some b := by
  intro b hb hc
  rcases h.2 with ⟨rfl, _⟩ | ⟨g, cap, cur, rfl, _, hg, _⟩
  · cases hb
  · rcases k.2 with ⟨rfl, _⟩ | ⟨g2, cap2, cur2, rfl, _, hg2, _⟩
    · cases hc
    · injection hb with hb
      injection hc with hc
      simp only at hb hc
      subst hb; subst hc
      rw [hg] at hg2
      injection hg2 with e
      injection e with _ e2
      exact hne e2

theorem cs_type {w : World} {lo n s1 b : Nat} {t1 t2 : TypeId} {v : Value} {xs : List Value} {cs : Array Value} (k : Cs w b t2 cs) (h : w.ownsRow lo t1 s1 v n xs) (hne : t1 ≠ t2) : v.ownBlock ≠ some b := by
  intro hb
  rcases h.2 with ⟨rfl, _⟩ | ⟨g, cap, cur, rfl, _, hg, _⟩
  · cases hb
  · injection hb with hb
    simp only at hb
    subst hb
    unfold Cs at k
    rw [hg] at k
    injection k with e
    injection e with _ e2
    exact hne e2

theorem Lv.kpo {S : Nat → Prop} {w w' : World} {lo hi : Nat} {v : Value} {zs : List Int} (h : Lv w lo hi v zs) (hk : Kp S w w') (hS : ∀ b, v.ownBlock = some b → ¬ S b) : Lv w' lo hi v zs :=
  ⟨⟨own_of_block h.1.1 fun g hg => hk.block g (h.1.1.lt g hg).2 (hS g hg), h.1.2⟩, Nat.le_trans h.2 hk.size⟩

theorem Lv.kp {S : Nat → Prop} {w w' : World} {lo hi : Nat} {v : Value} {zs : List Int} (h : Lv w lo hi v zs) (hk : Kp S w w') (hS : ∀ b, lo ≤ b → b < hi → ¬ S b) : Lv w' lo hi v zs :=
  ⟨⟨own_of_block h.1.1 fun g hg => hk.block g (h.1.1.lt g hg).2 (hS g (h.1.1.lt g hg).1 (h.1.2 g hg)), h.1.2⟩, Nat.le_trans h.2 hk.size⟩

theorem Kp.of_quiet {S : Nat → Prop} {w w' : World} (h : Qt w w') : Kp S w w' := Kp.of_below (h.below _)

theorem Kp.ownI {S : Nat → Prop} {w w' : World} {B : Nat} {v : Value} {zs : List Int} (h : Kp S w w') (ho : OwI w B v zs) (hS : ∀ k, v.ownBlock = some k → ¬ S k) : OwI w' B v zs :=
  own_of_block ho fun g hg => h.block g (ho.lt g hg).2 (hS g hg)

theorem grown_cs {w w' : World} {b : Nat} {T : TypeId} {cs : Array Value} {row : Option Nat} (h : Cs w b T cs) (hg : w.grownBy w' row) (hne : row ≠ some b) : Cs w' b T cs :=
  (hg.block b h.lt (fun e => hne e.symm)).trans h

end Go.Proofs.Yteagmkhpfmiaiaa
