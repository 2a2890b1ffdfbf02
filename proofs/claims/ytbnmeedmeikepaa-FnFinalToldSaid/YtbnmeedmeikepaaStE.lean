/-
  Contracts of HybridMerge, of the model and of the program. No condition.
-/
import Derived.Test.YtbnmeedmeikepaaStD
namespace Go.Proofs.Ytbnmeedmeikepaa
open Go.RowKit

theorem cell_far (w : World) (p a : Addr) (v : Value) (h : p.block ≠ a.block) : (w.setCell p v).cell? a = w.cell? a := World.cell?_setCell_other w p a v (fun e => h (by rw [e]))

/-- the greater one of two hybrid times -/
def gW (x c y d : Int) : Int := if lexB x c y d then y else x

def gC (x c y d : Int) : Int := if lexB x c y d then d else c

theorem gW_lt {x c y d : Int} (h : lexB x c y d = true) : gW x c y d = y := by simp [gW, h]

theorem gC_lt {x c y d : Int} (h : lexB x c y d = true) : gC x c y d = d := by simp [gC, h]

theorem gW_ge {x c y d : Int} (h : lexB x c y d = false) : gW x c y d = x := by simp [gW, h]

theorem gC_ge {x c y d : Int} (h : lexB x c y d = false) : gC x c y d = c := by simp [gC, h]

def mOk (x c p y d : Int) : Bool := hyB x c && (hyB y d && tickOk (gW x c y d) (gC x c y d) p)

def mW (x c p y d : Int) : Int := if mOk x c p y d then tickW (gW x c y d) (gC x c y d) p else 0

def mC (x c p y d : Int) : Int := if mOk x c p y d then tickC (gW x c y d) (gC x c y d) p else 0

def MergeIs (x c p y d W C : Int) (o : Bool) : Prop := mW x c p y d = W ∧ mC x c p y d = C ∧ mOk x c p y d = o

theorem merge_no {x c p y d : Int} (h : hyB x c = false ∨ hyB y d = false ∨ inB p 0 999 = false) : MergeIs x c p y d 0 0 false := by
  have ho : mOk x c p y d = false := by
    rcases h with h | h | h
    · simp [mOk, h]
    · simp [mOk, h]
    · simp [mOk, tickOk, h]
  exact ⟨by simp [mW, ho], by simp [mC, ho], ho⟩
/-- both are valid: the greater one ticks -/
theorem merge_tick {x c p y d : Int} (h : hyB x c = true) (k : hyB y d = true) :
    MergeIs x c p y d (tickW (gW x c y d) (gC x c y d) p) (tickC (gW x c y d) (gC x c y d) p) (tickOk (gW x c y d) (gC x c y d) p) := by
  have ho : mOk x c p y d = tickOk (gW x c y d) (gC x c y d) p := by simp [mOk, h, k]
  refine ⟨?_, ?_, ho⟩
  · rw [mW, ho]; cases e : tickOk (gW x c y d) (gC x c y d) p <;> simp [tickW_no, e]
  · rw [mC, ho]; cases e : tickOk (gW x c y d) (gC x c y d) p <;> simp [tickC_no, e]
/-- the wall and the count before one more, where they are known -/
theorem merge_hi {x c p y d : Int} (h : hyB x c = true) (k : hyB y d = true) (hp : inB p 0 999 = true) (h1 : x < p) (h2 : y < p) : MergeIs x c p y d p 0 true := by
  have hg : gW x c y d < p := by unfold gW; split <;> assumption
  have hy : hyB (gW x c y d) (gC x c y d) = true := by unfold gW gC; cases lexB x c y d <;> assumption
  have ho : tickOk (gW x c y d) (gC x c y d) p = true := tickOk_true.2 (by have := inB_true.1 hp; exact ⟨hy, by omega, by omega, .inl hg⟩)
  have := merge_tick h k (p := p)
  rw [tickW_hi ho hg, tickC_hi ho hg, ho] at this
  exact this

theorem merge_lo {x c p y d W C : Int} (h : hyB x c = true) (k : hyB y d = true) (hp : inB p 0 999 = true) (h1 : x ≤ W) (h2 : y ≤ W) (h3 : p ≤ W)
    (h4 : (x = W ∧ C = c ∧ (y = W → d ≤ c)) ∨ (y = W ∧ C = d ∧ (x = W → c ≤ d))) :
    (C < 99 → MergeIs x c p y d W (C + 1) true) ∧ (C = 99 → MergeIs x c p y d 0 0 false) := by
  have hg : gW x c y d = W ∧ gC x c y d = C := by
    cases e : lexB x c y d with
    | true => rw [gW_lt e, gC_lt e]; rw [lexB_true] at e; omega
    | false => rw [gW_ge e, gC_ge e]; rw [lexB_false] at e; omega
  have hy : hyB W C = true := by
    rw [← hg.1, ← hg.2]; unfold gW gC; cases lexB x c y d <;> assumption
  have hq := inB_true.1 hp
  have hm := merge_tick h k (p := p)
  rw [hg.1, hg.2] at hm
  refine ⟨fun hc => ?_, fun hc => ?_⟩
  · have ho : tickOk W C p = true := tickOk_true.2 ⟨hy, by omega, by omega, .inr hc⟩
    rw [tickW_lo ho h3, tickC_lo ho h3, ho] at hm
    exact hm
  · have ho : tickOk W C p = false := tickOk_false.2 (by omega)
    rw [tickW_no ho, tickC_no ho, ho] at hm
    exact hm

abbrev MergePost (x c p y d : Int) (w : World) : Ending → World → Prop := fun e w' => e = .returned (.tuple #[two (mW x c p y d) (mC x c p y d), .bool (mOk x c p y d)]) ∧ Below w.heap.size w w'

end Go.Proofs.Ytbnmeedmeikepaa
