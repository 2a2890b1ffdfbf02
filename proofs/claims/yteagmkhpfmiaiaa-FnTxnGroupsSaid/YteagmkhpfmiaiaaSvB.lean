/-
  What the exact laws of the store do with one transaction: its copy, comparison, marks; lists of bools. No condition but lengths below 2^40.
-/
import Derived.Test.YteagmkhpfmiaiaaSvA
namespace Go.Proofs.Yteagmkhpfmiaiaa
open Go.RowKit
set_option linter.unusedVariables false
set_option linter.unusedSimpArgs false

/-- a round of the call's own -/
structure OwT (w : World) (lo : Nat) (A1 : Option Addr) (n1 c1 : Nat) (A2 : Option Addr) (n2 c2 : Nat) (gs : List Int) (xs : List (Int × Int)) : Prop where
  og : OwI w lo (.slice A1 n1 c1) gs
  os : OwP w lo (.slice A2 n2 c2) xs
  l1 : gs.length = n1
  l2 : xs.length = n2

section
variable {w w' : World} {lo lo' n1 c1 n2 c2 : Nat} {A1 A2 : Option Addr} {gs : List Int} {xs : List (Int × Int)} {v : Value}

theorem OwP.cap (h : OwP w lo (.slice A2 n2 c2) xs) (hl : xs.length = n2) : n2 ≤ c2 ∧ c2 ≤ 9223372036854775807 := by
  obtain ⟨A', c', e, _, h1, h2⟩ := h.form
  injection e with e1 e2 e3
  subst e3
  rw [hl] at h1
  exact ⟨h1, h2⟩

theorem OwP.rd (h : OwP w lo (.slice A2 n2 c2) xs) (hl : xs.length = n2) : RdP w A2 n2 xs := by
  obtain ⟨A', c', e, h1, _⟩ := h.form
  injection e with e1 e2 e3
  subst e1
  rw [← hl]; exact h1

theorem OwI.rd_ {zs : List Int} (h : OwI w lo (.slice A1 n1 c1) zs) (hl : zs.length = n1) : RdI w w.heap.size A1 n1 zs := by
  obtain ⟨A', c', e, h1⟩ := h.form
  injection e with e1 e2 e3
  subst e1
  rw [← hl]; exact h1

theorem OwI.kp {S : Nat → Prop} {zs : List Int} (ho : OwI w lo v zs) (h : Kp S w w') (hS : ∀ k, v.ownBlock = some k → ¬ S k) : OwI w' lo v zs := h.ownI ho hS

theorem OwP.kp {S : Nat → Prop} (ho : OwP w lo v xs) (h : Kp S w w') (hS : ∀ k, v.ownBlock = some k → ¬ S k) : OwP w' lo v xs :=
  ho.of_block fun g hg => h.block g (ho.lt g hg).2 (hS g hg)

theorem OwI.setFar {zs : List Int} (h : OwI w lo v zs) {p : Addr} (hp : v.ownBlock ≠ some p.block) (u : Value) : OwI (w.setCell p u) lo v zs :=
  own_of_block h fun g hg => Below.heap_setCell w p u g (fun e => hp (by rw [hg, e]))

theorem OwP.setFar (h : OwP w lo v xs) {p : Addr} (hp : v.ownBlock ≠ some p.block) (u : Value) : OwP (w.setCell p u) lo v xs :=
  h.of_block fun g hg => Below.heap_setCell w p u g (fun e => hp (by rw [hg, e]))

theorem OwI.setLow {zs : List Int} (h : OwI w lo v zs) {p : Addr} (hp : p.block < lo) (u : Value) : OwI (w.setCell p u) lo v zs := h.setFar (fun e => by have := (h.lt _ e).1; omega) u

theorem OwP.setLow (h : OwP w lo v xs) {p : Addr} (hp : p.block < lo) (u : Value) : OwP (w.setCell p u) lo v xs := h.setFar (fun e => by have := (h.lt _ e).1; omega) u

theorem OwT.below (h : OwT w lo A1 n1 c1 A2 n2 c2 gs xs) (hb : Below w.heap.size w w') : OwT w' lo A1 n1 c1 A2 n2 c2 gs xs := ⟨h.og.stepS hb, h.os.below hb, h.l1, h.l2⟩

theorem OwT.more (h : OwT w lo A1 n1 c1 A2 n2 c2 gs xs) (hl : lo' ≤ lo) : OwT w lo' A1 n1 c1 A2 n2 c2 gs xs := ⟨h.og.more hl, h.os.more hl, h.l1, h.l2⟩

theorem OwT.setLow (h : OwT w lo A1 n1 c1 A2 n2 c2 gs xs) {p : Addr} (hp : p.block < lo) (u : Value) : OwT (w.setCell p u) lo A1 n1 c1 A2 n2 c2 gs xs := ⟨h.og.setLow hp u, h.os.setLow hp u, h.l1, h.l2⟩

theorem Cs.set3T {b : Nat} {T : TypeId} {a0 a1 a2 : Value} (h : Cs w b T #[a0, a1, a2]) (u0 u1 u2 : Value) : Cs (((w.setCell ⟨b, 0, none⟩ u0).setCell ⟨b, 1, none⟩ u1).setCell ⟨b, 2, none⟩ u2) b T #[u0, u1, u2] := ((h.set 0 u0).set 1 u1).set 2 u2
end


/-! ### a transaction that is live -/
structure Lt (w : World) (lo hi : Nat) (A1 : Option Addr) (n1 c1 : Nat) (A2 : Option Addr) (n2 c2 : Nat) (gs : List Int) (xs : List (Int × Int)) : Prop where
  ow : OwT w lo A1 n1 c1 A2 n2 c2 gs xs
  hb : ∀ b, (Value.slice A1 n1 c1).ownBlock = some b ∨ (Value.slice A2 n2 c2).ownBlock = some b → b < hi
  hi : hi ≤ w.heap.size
section
variable {w w' : World} {S : Nat → Prop} {lo hi n1 c1 n2 c2 : Nat} {A1 A2 : Option Addr} {gs : List Int} {xs : List (Int × Int)}

theorem Lt.of (h : OwT w lo A1 n1 c1 A2 n2 c2 gs xs) : Lt w lo w.heap.size A1 n1 c1 A2 n2 c2 gs xs :=
  ⟨h, fun b hb => by rcases hb with hb | hb; exact (h.og.lt b hb).2; exact (h.os.lt b hb).2, Nat.le_refl _⟩

theorem Lt.step (h : Lt w lo hi A1 n1 c1 A2 n2 c2 gs xs) (hb : Below w.heap.size w w') : Lt w' lo hi A1 n1 c1 A2 n2 c2 gs xs := ⟨h.ow.below hb, h.hb, Nat.le_trans h.hi hb.size⟩

theorem Lt.kp (h : Lt w lo hi A1 n1 c1 A2 n2 c2 gs xs) (hk : Kp S w w') (hS : ∀ b, lo ≤ b → b < hi → ¬ S b) : Lt w' lo hi A1 n1 c1 A2 n2 c2 gs xs :=
  ⟨⟨h.ow.og.kp hk (fun k hk' => hS k (h.ow.og.lt k hk').1 (h.hb k (.inl hk'))), h.ow.os.kp hk (fun k hk' => hS k (h.ow.os.lt k hk').1 (h.hb k (.inr hk'))), h.ow.l1, h.ow.l2⟩, h.hb, Nat.le_trans h.hi hk.size⟩

theorem Lt.kpo (h : Lt w lo hi A1 n1 c1 A2 n2 c2 gs xs) (hk : Kp S w w') (h1 : ∀ b, (Value.slice A1 n1 c1).ownBlock = some b → ¬ S b) (h2 : ∀ b, (Value.slice A2 n2 c2).ownBlock = some b → ¬ S b) : Lt w' lo hi A1 n1 c1 A2 n2 c2 gs xs :=
  ⟨⟨h.ow.og.kp hk h1, h.ow.os.kp hk h2, h.ow.l1, h.ow.l2⟩, h.hb, Nat.le_trans h.hi hk.size⟩

theorem Lt.r1 (h : Lt w lo hi A1 n1 c1 A2 n2 c2 gs xs) : RdI w w.heap.size A1 n1 gs := h.ow.og.rd_ h.ow.l1

theorem Lt.r2 (h : Lt w lo hi A1 n1 c1 A2 n2 c2 gs xs) : RdP w A2 n2 xs := h.ow.os.rd h.ow.l2
end


/-- a copy of a transaction: its two slices in memory of its own -/
def TxPost (m : Int) (gs : List Int) (xs : List (Int × Int)) (w : World) (e : Ending) (w' : World) : Prop :=
  ∃ A1 c1 A2 c2, e = .returned (txV (.slice A1 gs.length c1) m (.slice A2 xs.length c2)) ∧ OwT w' w.heap.size A1 gs.length c1 A2 xs.length c2 gs xs ∧ Below w.heap.size w w'

theorem below3T (w : World) (o p q : Obj) : Below w.heap.size w (((w.alloc o).alloc p).alloc q) := (below2 w o p).alloc (by simp; omega) _

end Go.Proofs.Yteagmkhpfmiaiaa
