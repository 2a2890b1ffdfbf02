/-
  The draws of pairs of stamps and of hybrid times. No condition.
-/
import Derived.Test.YtbnmeedmeikepaaStF
namespace Go.Proofs.Ytbnmeedmeikepaa
open Go.RowKit

theorem RowIs.alloc {k : IntKind} {w : World} {a : Option Addr} {len cap : Nat} {zs : List Int} (h : RowIs k w a len cap zs) (o : Obj) : RowIs k (w.alloc o) a len cap zs := by
  rcases h with h | ⟨x, rfl, hl, hm, hz, hc, hw⟩
  · exact .inl h
  · exact .inr ⟨x, rfl, hl, hm, hz, fun i hi => (World.cell?_alloc_lt w o _ (World.block_lt_of_cell? w _ (hc i hi))).trans (hc i hi), hw⟩

def DrawSS (w : World) (e : Ending) (w' : World) : Prop :=
  ∃ t k u h : Int, e = .returned (.tuple #[two t k, two u h]) ∧ Below w.heap.size w w'

def DrawHP (w : World) (e : Ending) (w' : World) : Prop :=
  ∃ t k p : Int, e = .returned (.tuple #[two t k, .int .i64 p]) ∧ Below w.heap.size w w'

def DrawHPH (w : World) (e : Ending) (w' : World) : Prop :=
  ∃ t k p u h : Int, e = .returned (.tuple #[two t k, .int .i64 p, two u h]) ∧ Below w.heap.size w w'

end Go.Proofs.Ytbnmeedmeikepaa
