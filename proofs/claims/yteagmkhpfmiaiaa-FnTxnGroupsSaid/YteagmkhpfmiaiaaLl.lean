/-
  Slices of slices of ints: what they read as. No condition.
-/
import Derived.Test.YteagmkhpfmiaiaaMgA
namespace Go.Proofs.Yteagmkhpfmiaiaa
open Go.RowKit

/-- '.slice A n c' reads as the lists zss; everything lies below B. -/
def RdL (w : World) (B : Nat) (A : Option Addr) (n : Nat) (zss : List (List Int)) : Prop :=
  zss.length = n ∧ ∀ i, i < n → ∃ (ad : Addr) (Ai : Option Addr) (ci : Nat), A = some ad ∧ ad.block < B ∧ w.cell? (ad.add i) = some (.slice Ai (zss.getD i []).length ci) ∧
    RdI w B Ai (zss.getD i []).length (zss.getD i [])
section
variable {w w' : World} {B B' n : Nat} {A : Option Addr} {zss : List (List Int)}

theorem RdL.keep (h : RdL w B A n zss) (hk : ∀ p : Addr, p.block < B → w'.cell? p = w.cell? p) : RdL w' B A n zss :=
  ⟨h.1, fun i hi => by
    obtain ⟨ad, Ai, ci, e, hb, hc, hr⟩ := h.2 i hi
    exact ⟨ad, Ai, ci, e, hb, (hk _ (by rw [block_of_add]; exact hb)).trans hc, Reads.keep hr hk⟩⟩

theorem RdL.more (h : RdL w B A n zss) (hB : B ≤ B') : RdL w B' A n zss :=
  ⟨h.1, fun i hi => by
    obtain ⟨ad, Ai, ci, e, hb, hc, hr⟩ := h.2 i hi
    exact ⟨ad, Ai, ci, e, by omega, hc, Reads.more hr hB⟩⟩

theorem RdL.below (h : RdL w B A n zss) (hb : Below B w w') : RdL w' B A n zss := h.keep fun _ hp => hb.cell hp

theorem RdL.quiet (h : RdL w B A n zss) (hq : Qt w w') : RdL w' B A n zss := by
  obtain ⟨q, rfl⟩ := hq
  exact h

theorem RdL.alloc (h : RdL w B A n zss) (hB : B ≤ w.heap.size) (o : Obj) : RdL (w.alloc o) B A n zss := h.keep fun p hp => World.cell?_alloc_lt w o p (by omega)

theorem RdL.at' {k : Nat} (h : RdL w B A n zss) (hk : k < n) : ∃ (ad : Addr) (Ai : Option Addr) (m ci : Nat) (zs : List Int), A = some ad ∧ Hid (zss.getD k [] = zs) ∧ Hid (zs.length = m) ∧ w.cell? (ad.add k) = some (.slice Ai m ci) ∧ RdI w B Ai m zs := by
  obtain ⟨ad, Ai, ci, e, _, hc, hr⟩ := h.2 k hk
  exact ⟨ad, Ai, _, ci, _, e, rfl, rfl, hc, hr⟩
end

/-- every inner list is short -/
def Short (zss : List (List Int)) : Prop := ∀ i, i < zss.length → (zss.getD i []).length < 1099511627776

def NewI (w : World) (zs : List Int) (e : Ending) (w' : World) : Prop := ∃ v, e = .returned v ∧ OwI w' w.heap.size v zs ∧ Below w.heap.size w w'

theorem OwI.below {w w' : World} {lo : Nat} {v : Value} {zs : List Int} (h : OwI w lo v zs) (hb : Below w.heap.size w w') : OwI w' lo v zs :=
  own_of_block h fun g hg => hb.block g (h.lt g hg).2
end Go.Proofs.Yteagmkhpfmiaiaa
