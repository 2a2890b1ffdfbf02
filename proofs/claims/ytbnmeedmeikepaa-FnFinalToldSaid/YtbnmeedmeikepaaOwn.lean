/-
  Slices of ints that a call owns, told apart by where their blocks lie; contracts of the exact laws' helpers toIntS, markIntS, heldIntS. No condition but lengths below 2^40.
-/
import Derived.Test.YtbnmeedmeikepaaSpecB
namespace Go.Proofs.Ytbnmeedmeikepaa
open Go.RowKit

/-- v is a slice that is owned and holds zs; its block (if any) lies from lo on and below hi. -/
def Ow (w : World) (lo hi : Nat) (v : Value) (zs : List Int) : Prop := OwI w lo v zs ∧ ∀ g, v.ownBlock = some g → g < hi

section
variable {w w' : World} {lo hi lo' hi' B : Nat} {v u : Value} {zs : List Int}

theorem Ow.of (h : OwI w lo v zs) : Ow w lo w.heap.size v zs := ⟨h, fun g hg => (h.lt g hg).2⟩

theorem Ow.le (h : Ow w lo hi v zs) (hh : hi ≤ hi') : Ow w lo hi' v zs := ⟨h.1, fun g hg => Nat.lt_of_lt_of_le (h.2 g hg) hh⟩

theorem own_of_block (h : OwI w lo v zs) (hb : ∀ g, v.ownBlock = some g → w'.heap[g]? = w.heap[g]?) : OwI w' lo v zs := by
  refine ⟨h.1, ?_⟩
  rcases h.2 with hn | ⟨g, cap, cur, e, hl, hg, hr⟩
  · exact .inl hn
  · exact .inr ⟨g, cap, cur, e, hl, (hb g (by rw [e]; rfl)).trans hg, hr⟩

theorem Ow.below (h : Ow w lo hi v zs) (hb : Below B w w') (hh : hi ≤ B) : Ow w' lo hi v zs :=
  ⟨own_of_block h.1 fun g hg => hb.block g (Nat.lt_of_lt_of_le (h.2 g hg) hh), h.2⟩

theorem Ow.quiet (h : Ow w lo hi v zs) (hq : Qt w w') : Ow w' lo hi v zs := ⟨hq.own h.1, h.2⟩
/-- behind a write to another row -/
theorem Ow.other (h : Ow w lo hi v zs) (hg : w.grownBy w' u.ownBlock) (hu : ∀ g, u.ownBlock = some g → g < lo ∨ hi ≤ g) : Ow w' lo hi v zs :=
  ⟨own_of_block h.1 fun g hgv => hg.block g (h.1.lt g hgv).2 (fun e => by
    have h1 := hu g e.symm
    have h2 := (h.1.lt g hgv).1
    have h3 := h.2 g hgv
    omega), h.2⟩

theorem Ow.rd (h : Ow w lo hi v zs) (hs : hi ≤ B) : ∃ A c, v = .slice A zs.length c ∧ RdI w B A zs.length zs := by
  rcases h.1.2 with ⟨rfl, h0⟩ | ⟨g, cap, cur, rfl, hrest⟩
  · have hz : zs = [] := List.eq_nil_of_length_eq_zero h0
    subst hz
    exact ⟨none, 0, rfl, Reads.none_⟩
  · refine ⟨_, cap, rfl, ?_⟩
    have hr := Reads.of_own (c := cap) h.1
    refine ⟨hr.1, fun hn => ?_⟩
    obtain ⟨ad, e, _, hc⟩ := hr.2 hn
    refine ⟨ad, e, ?_, hc⟩
    have := h.2 g rfl
    injection e with e
    subst e
    show g < B
    omega

theorem Ow.belowOf (h : Ow w lo hi v zs) (hg : w.grownBy w' v.ownBlock) (hB : B ≤ lo) (hs : B ≤ w.heap.size) : Below B w w' :=
  ⟨hg.os, hg.tape, hg.output, hg.size, fun k hk => hg.block k (by omega) (fun e => by have := (h.1.lt k e.symm).1; omega)⟩
end

theorem grown_set {w wr w' : World} {row : Option Nat} (h : w.grownBy wr row) (k : wr.grownBy w' row) : w.grownBy w' row :=
  ⟨k.os.trans h.os, k.tape.trans h.tape, k.output.trans h.output, Nat.le_trans h.size k.size, fun i hi hne => (k.block i (Nat.lt_of_lt_of_le hi h.size) hne).trans (h.block i hi hne)⟩

/-- the numbers k, k + 1, .. -/
def marks (k : Int) (n : Nat) : List Int := (List.range n).map fun (i : Nat) => k + (i : Int)

theorem marks_len (k : Int) (n : Nat) : (marks k n).length = n := by simp [marks]

theorem marks_get {k : Int} {n i : Nat} (h : i < n) : (marks k n).getD i 0 = k + (i : Int) := by simp [marks, h]

/-! ### live values: owned, and their blocks lie already -/
theorem Ow.rdAt {w : World} {lo hi B n c : Nat} {A : Option Addr} {zs : List Int} (h : Ow w lo hi (.slice A n c) zs) (hs : hi ≤ B) : RdI w B A n zs := by
  obtain ⟨A', c', e, hr⟩ := h.rd hs
  injection e with e1 e2 e3
  subst e1; subst e2
  exact hr

def Lv (w : World) (lo hi : Nat) (v : Value) (zs : List Int) : Prop := Ow w lo hi v zs ∧ hi ≤ w.heap.size
section
variable {w w' : World} {lo hi lo2 hi2 n c B : Nat} {v u : Value} {zs us : List Int} {A : Option Addr}

theorem Lv.of (h : Ow w lo w.heap.size v zs) : Lv w lo w.heap.size v zs := ⟨h, Nat.le_refl _⟩

theorem Lv.ofI (h : OwI w lo v zs) : Lv w lo w.heap.size v zs := ⟨Ow.of h, Nat.le_refl _⟩

theorem Lv.step (h : Lv w lo hi v zs) (hb : Below w.heap.size w w') : Lv w' lo hi v zs := ⟨h.1.below hb h.2, Nat.le_trans h.2 hb.size⟩

theorem Lv.quiet (h : Lv w lo hi v zs) (hq : Qt w w') : Lv w' lo hi v zs := ⟨h.1.quiet hq, by rw [hq.size]; exact h.2⟩

theorem Lv.other (h : Lv w lo hi v zs) (hu : Lv w lo2 hi2 u us) (hg : w.grownBy w' u.ownBlock) (hd : hi ≤ lo2 ∨ hi2 ≤ lo) : Lv w' lo hi v zs :=
  ⟨h.1.other hg fun g hgu => by
    have h1 := (hu.1.1.lt g hgu).1
    have h2 := hu.1.2 g hgu
    omega, Nat.le_trans h.2 hg.size⟩

theorem Lv.rd (h : Lv w lo hi v zs) : ∃ A c, v = .slice A zs.length c := by
  obtain ⟨A, c, e, _⟩ := h.1.rd (Nat.le_refl hi)
  exact ⟨A, c, e⟩

theorem Lv.at_ (h : Lv w lo hi (.slice A n c) zs) : RdI w w.heap.size A n zs := h.1.rdAt h.2

theorem Lv.base (h : Lv w lo hi v zs) (hg : w.grownBy w' v.ownBlock) (hB : B ≤ lo) (hs : B ≤ w.heap.size) : Below B w w' := h.1.belowOf hg hB hs
end

end Go.Proofs.Ytbnmeedmeikepaa
