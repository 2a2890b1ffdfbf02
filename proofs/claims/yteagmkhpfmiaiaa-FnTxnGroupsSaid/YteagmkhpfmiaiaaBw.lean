/-
  A region that only reads and makes new memory. No condition.
-/
import Derived.Test.YteagmkhpfmiaiaaMgA
namespace Go.Proofs.Yteagmkhpfmiaiaa
open Go.RowKit
set_option linter.unusedVariables false

theorem below1 (w : World) (o : Obj) : Below w.heap.size w (w.alloc o) := (Below.refl _ _).alloc (Nat.le_refl _) _

theorem below2 (w : World) (o p : Obj) : Below w.heap.size w ((w.alloc o).alloc p) := (below1 w o).alloc (by simp) _

theorem below3 (w : World) (o p q : Obj) : Below w.heap.size w (((w.alloc o).alloc p).alloc q) := (below2 w o p).alloc (by simp; omega) _


/-- a world in which all that lay in W still lies -/
structure BW (W : World) where
  wd : World
  below : Below W.heap.size W wd

instance (W : World) : Nonempty (BW W) := ⟨⟨W, Below.refl _ _⟩⟩
section
variable {W : World}

theorem BW.cell (x : BW W) {b off : Nat} {v : Value} (h : W.cell? ⟨b, off, none⟩ = some v) : x.wd.cell? ⟨b, off, none⟩ = some v :=
  (x.below.cell (p := ⟨b, off, none⟩) (World.block_lt_of_cell? W _ h)).trans h

theorem BW.call {P : Program} {f : FuncId} {args : Array Value} {v : Value} (x : BW W) (h : Calls P f args x.wd fun e w' => e = .returned v ∧ Below x.wd.heap.size x.wd w') :
    Calls P f args x.wd fun e w'' => e = .returned v ∧ ∃ y : BW W, w'' = y.wd :=
  h.mono fun _ w' ⟨he, hb⟩ => ⟨he, ⟨w', x.below.trans (hb.mono x.below.size)⟩, rfl⟩

theorem BW.same {P : Program} {f : FuncId} {args : Array Value} {v : Value} (x : BW W) (h : Calls P f args x.wd fun e w' => e = .returned v ∧ x.wd = w') :
    Calls P f args x.wd fun e w'' => e = .returned v ∧ ∃ y : BW W, w'' = y.wd :=
  h.mono fun _ _ ⟨he, hw⟩ => ⟨he, x, hw.symm⟩

theorem wpQuiet_mono {P : Program} {ops : Array Oper} {C : World → Prop} {Q Q' : Act → Prop} (h : ∀ a, Q a → Q' a) : ∀ (l : List Oper) (a : Act), wpQuiet P ops C Q l a → wpQuiet P ops C Q' l a
  | [], _, k => h _ k
  | o :: l, a, k => by
    unfold wpQuiet at k ⊢
    split
    · rename_i hw
      rw [if_pos hw] at k
      exact Oper.quiet_mono (fun a => wpQuiet_mono h l a) k
    · rename_i hw
      rw [if_neg hw] at k
      exact wpQuiet_mono h l _ k

theorem wp_region_below {P : Program} {id : Nat} {Q : Exit → Act → World → Prop} {a : Act} {l : List Oper} (hm : P.follows .mixedOrders = true) (hB : Region.lexB .any l.toArray = true)
    (h : wpQuiet P l.toArray (fun w' => ∃ x : BW W, w' = x.wd) (fun a' => ∀ w', Below W.heap.size W w' → Q .normal a' w') l a) : (Code.region id l.toArray true).wp P Q a W :=
  wp_region_quiet (C := fun w' => ∃ x : BW W, w' = x.wd) hm hB ⟨⟨W.drew, (Below.refl _ _).drew⟩, rfl⟩ (wpQuiet_mono (fun a' h w' ⟨x, e⟩ => by subst e; exact h _ x.below) _ _ (by simpa using h))
end
end Go.Proofs.Yteagmkhpfmiaiaa
