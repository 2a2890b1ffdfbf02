/-
  What may turn and what lies still: a frame over a set of blocks; a heap of entries in memory (a box that holds an owned slice). No condition.
-/
import Derived.Test.YtbnmeedmeikepaaGmC
namespace Go.Proofs.Ytbnmeedmeikepaa
open Go.RowKit

/-- of the blocks that lie already only those of S may turn -/
structure Kp (S : Nat → Prop) (w w' : World) : Prop where
  os : w'.os = w.os
  tape : w'.tape = w.tape
  output : w'.output = w.output
  size : w.heap.size ≤ w'.heap.size
  block : ∀ k, k < w.heap.size → ¬ S k → w'.heap[k]? = w.heap[k]?
section
variable {S S' : Nat → Prop} {w w' w'' : World}

theorem Kp.refl (S : Nat → Prop) (w : World) : Kp S w w := ⟨rfl, rfl, rfl, Nat.le_refl _, fun _ _ _ => rfl⟩

theorem Kp.of_below (h : Below w.heap.size w w') : Kp S w w' := ⟨h.os, h.tape, h.output, h.size, fun k hk _ => h.block k hk⟩

theorem Kp.trans (h : Kp S w w') (k : Kp S' w' w'') (hS : ∀ i, i < w.heap.size → S' i → S i) : Kp S w w'' :=
  ⟨k.os.trans h.os, k.tape.trans h.tape, k.output.trans h.output, Nat.le_trans h.size k.size, fun i h1 h2 => (k.block i (Nat.lt_of_lt_of_le h1 h.size) (fun h3 => h2 (hS i h1 h3))).trans (h.block i h1 h2)⟩

theorem Kp.then (h : Kp S w w') (k : Kp S w' w'') : Kp S w w'' := h.trans k fun _ _ h => h

theorem Kp.mono (h : Kp S w w') (hS : ∀ i, S i → S' i) : Kp S' w w' := ⟨h.os, h.tape, h.output, h.size, fun i h1 h2 => h.block i h1 (fun h3 => h2 (hS i h3))⟩

theorem Kp.below_ (h : Kp S w w') (k : Below w'.heap.size w' w'') : Kp S w w'' := h.then (Kp.of_below k)

theorem Kp.alloc (h : Kp S w w') (o : Obj) : Kp S w (w'.alloc o) := h.below_ (below1 w' o)

theorem Kp.drew (h : Kp S w w') : Kp S w w'.drew := ⟨h.os, h.tape, h.output, h.size, h.block⟩

theorem Kp.drewN (h : Kp S w w') (n : Nat) : Kp S w (w'.drewN n) := ⟨h.os, h.tape, h.output, h.size, h.block⟩

theorem Kp.setCell (h : Kp S w w') {p : Addr} (hp : w.heap.size ≤ p.block ∨ S p.block) (u : Value) : Kp S w (w'.setCell p u) :=
  ⟨h.os, h.tape, h.output, by rw [show (w'.setCell p u).heap.size = w'.heap.size by simp [World.setCell]]; exact h.size, fun i h1 h2 => (Below.heap_setCell w' p u i (fun e => by
    subst e
    rcases hp with hp | hp
    · omega
    · exact h2 hp)).trans (h.block i h1 h2)⟩

theorem Kp.grown (h : Kp S w w') {row : Option Nat} (hg : w'.grownBy w'' row) (hr : ∀ k, row = some k → w.heap.size ≤ k ∨ S k) : Kp S w w'' :=
  ⟨hg.os.trans h.os, hg.tape.trans h.tape, hg.output.trans h.output, Nat.le_trans h.size hg.size, fun i h1 h2 => (hg.block i (Nat.lt_of_lt_of_le h1 h.size) (fun e => by
    rcases hr i e.symm with h3 | h3
    · omega
    · exact h2 h3)).trans (h.block i h1 h2)⟩

theorem Kp.base {B : Nat} (h : Kp S w w') (hB : B ≤ w.heap.size) (hS : ∀ i, S i → B ≤ i) : Below B w w' :=
  ⟨h.os, h.tape, h.output, h.size, fun k hk => h.block k (by omega) (fun h => by have := hS k h; omega)⟩

theorem Kp.cell (h : Kp S w w') {p : Addr} (h1 : p.block < w.heap.size) (h2 : ¬ S p.block) : w'.cell? p = w.cell? p := World.cell?_of_block (h.block _ h1 h2)

theorem Kp.own (h : Kp S w w') {B : Nat} {v : Value} {zs : List En} (ho : OwE w B v zs) (hS : ∀ k, v.ownBlock = some k → ¬ S k) : OwE w' B v zs :=
  ho.of_block fun g hg => h.block g (ho.lt g hg).2 (hS g hg)
end

/-- a block that is known whole -/
def Cs (w : World) (b : Nat) (T : TypeId) (cs : Array Value) : Prop := w.heap[b]? = some (.cells cs T (0, 0))
section
variable {S : Nat → Prop} {w w' : World} {b : Nat} {T : TypeId} {cs : Array Value}

theorem Cs.lt (h : Cs w b T cs) : b < w.heap.size := (Array.getElem?_eq_some_iff.1 h).1

theorem Cs.cell (h : Cs w b T cs) (i : Nat) : w.cell? ⟨b, i, none⟩ = cs[i]? := cell_of_row w b i _ _ (0, 0) h

theorem Cs.frozen (h : Cs w b T cs) (i : Nat) : w.frozen? ⟨b, i, none⟩ = false := frozen_of_row w b i _ _ h

theorem Cs.new (w : World) (T : TypeId) (cs : Array Value) : Cs (w.alloc (.cells cs T)) w.heap.size T cs := heap_alloc_new w _

theorem Cs.set (h : Cs w b T cs) (i : Nat) (u : Value) : Cs (w.setCell ⟨b, i, none⟩ u) b T (cs.setIfInBounds i u) := by
  unfold Cs; rw [heap_setCell_same w b i _ _ _ h]

theorem Cs.kp (h : Cs w b T cs) (hk : Kp S w w') (hb : ¬ S b) : Cs w' b T cs := (hk.block b h.lt hb).trans h

theorem Cs.below {B : Nat} (h : Cs w b T cs) (hk : Below B w w') (hB : b < B) : Cs w' b T cs := (hk.block b hB).trans h

theorem Cs.step (h : Cs w b T cs) (hk : Below w.heap.size w w') : Cs w' b T cs := h.below hk h.lt

theorem Cs.alloc (h : Cs w b T cs) (o : Obj) : Cs (w.alloc o) b T cs := h.step (below1 w o)

theorem Cs.drew (h : Cs w b T cs) : Cs w.drew b T cs := h

theorem Cs.far (h : Cs w b T cs) {p : Addr} (hne : b ≠ p.block) (u : Value) : Cs (w.setCell p u) b T cs := (Below.heap_setCell w p u b hne).trans h
end

/-- a block of one cell -/
def Bx (w : World) (b : Nat) (T : TypeId) (v : Value) : Prop := w.heap[b]? = some (.cells #[v] T (0, 0))
section
variable {S : Nat → Prop} {w w' : World} {b : Nat} {T : TypeId} {v u : Value}

theorem Bx.lt (h : Bx w b T v) : b < w.heap.size := (Array.getElem?_eq_some_iff.1 h).1

theorem Bx.cell (h : Bx w b T v) : w.cell? ⟨b, 0, none⟩ = some v := by rw [cell_of_row w b 0 _ _ (0, 0) h]; rfl

theorem Bx.frozen (h : Bx w b T v) : w.frozen? ⟨b, 0, none⟩ = false := frozen_of_row w b 0 _ _ h

theorem Bx.new (w : World) (T : TypeId) (v : Value) : Bx (w.alloc (.cells #[v] T)) w.heap.size T v := heap_alloc_new w _

theorem Bx.set (h : Bx w b T v) (u : Value) : Bx (w.setCell ⟨b, 0, none⟩ u) b T u := by
  unfold Bx; rw [heap_setCell_same w b 0 _ _ _ h]; rfl

theorem Bx.kp (h : Bx w b T v) (hk : Kp S w w') (hb : ¬ S b) : Bx w' b T v := (hk.block b h.lt hb).trans h

theorem Bx.below (h : Bx w b T v) (hk : Below w.heap.size w w') : Bx w' b T v := (hk.block b h.lt).trans h

theorem Bx.drew (h : Bx w b T v) : Bx w.drew b T v := h

theorem Bx.far (h : Bx w b T v) {p : Addr} (hne : b ≠ p.block) (u : Value) : Bx (w.setCell p u) b T v := (Below.heap_setCell w p u b hne).trans h
end

/-- the heap whose box is hb: it holds the slice v of the entries zs -/
def HM (w : World) (lo hb : Nat) (v : Value) (zs : List En) : Prop := Bx w hb 56 v ∧ OwE w lo v zs ∧ v.ownBlock ≠ some hb
/-- the blocks that a heap may turn -/
def HS (hb : Nat) (v : Value) (k : Nat) : Prop := k = hb ∨ v.ownBlock = some k
section
variable {S : Nat → Prop} {w w' : World} {lo hb : Nat} {v : Value} {zs : List En}

theorem HM.below (h : HM w lo hb v zs) (hk : Below w.heap.size w w') : HM w' lo hb v zs := ⟨h.1.below hk, h.2.1.below hk, h.2.2⟩

theorem HM.kp (h : HM w lo hb v zs) (hk : Kp S w w') (h1 : ¬ S hb) (h2 : ∀ k, v.ownBlock = some k → ¬ S k) : HM w' lo hb v zs := ⟨h.1.kp hk h1, hk.own h.2.1 h2, h.2.2⟩

theorem HM.drew (h : HM w lo hb v zs) : HM w.drew lo hb v zs := h
end

/-- the first entries of an owned slice -/
theorem OwE.cut {w : World} {B n c : Nat} {A : Option Addr} {zs : List En} (h : OwE w B (.slice A zs.length c) zs) (hn : n ≤ zs.length) : OwE w B (.slice A n c) (zs.take n) := by
  have hl : (zs.take n).length = n := by rw [List.length_take]; omega
  show w.ownsRow B 34 4 (.slice A n c) (zs.take n).length (enc (zs.take n))
  rw [hl]
  refine ⟨by rw [enc_len, hl], ?_⟩
  rcases h.2 with ⟨e, h0⟩ | ⟨g, cap, cur, e, hb, hh, h1, h2, h3, h4⟩
  · injection e with e1 e2 e3
    subst e1; subst e3
    have : n = 0 := by omega
    subst this
    exact .inl ⟨rfl, rfl⟩
  · injection e with e1 e2 e3
    subst e1; subst e3
    refine .inr ⟨g, c, cur, rfl, hb, hh, by omega, h2, h3, ?_⟩
    rw [enc_take, ← h4, List.take_take]
    congr 1; omega
/-- four cells stored: an entry -/
theorem OwE.put {w : World} {B g n c : Nat} {zs : List En} (h : OwE w B (.slice (some ⟨g, 0, none⟩) n c) zs) (hn : zs.length = n) (k : Nat) (x : En) :
    OwE ((((w.setCell ⟨g, k * 4, none⟩ (.int .i64 x.1)).setCell ⟨g, k * 4 + 1, none⟩ (.int .i64 x.2.1.1)).setCell ⟨g, k * 4 + 2, none⟩ (.int .i64 x.2.1.2)).setCell ⟨g, k * 4 + 3, none⟩ (.bool x.2.2)) B (.slice (some ⟨g, 0, none⟩) n c) (zs.set k x) := by
  subst hn
  have h1 := (h.stored (k * 4) (.int .i64 x.1)).1
  have h2 := (h1.stored (k * 4 + 1) (.int .i64 x.2.1.1)).1
  have h3 := (h2.stored (k * 4 + 2) (.int .i64 x.2.1.2)).1
  have h4 := (h3.stored (k * 4 + 3) (.bool x.2.2)).1
  show World.ownsRow _ B 34 4 _ (zs.set k x).length (enc (zs.set k x))
  rw [enc_set, List.length_set]
  exact h4
/-- the block of an owned slice that is not empty -/
theorem OwE.block_ {w : World} {B n c : Nat} {A : Option Addr} {zs : List En} (h : OwE w B (.slice A n c) zs) (hn : 0 < zs.length) : ∃ g, A = some ⟨g, 0, none⟩ ∧ g < w.heap.size ∧ B ≤ g ∧ zs.length = n := by
  rcases h.2 with ⟨e, h0⟩ | ⟨g, cap, cur, e, hb, hh, hrest⟩
  · omega
  · injection e with e1 e2 e3
    exact ⟨g, e1, (Array.getElem?_eq_some_iff.1 hh).1, hb, e2.symm⟩
end Go.Proofs.Ytbnmeedmeikepaa
