/-
  What the frame of the exact law of StoreJoin needs: a slice of slices of ints that came in, and that its numbers are the machine's.
-/
import Derived.Test.YthnkilacknoklaaFrameL
import Derived.Test.YthnkilacknoklaaSpF
namespace Go.Proofs.Ythnkilacknoklaa
open Go.RowKit

def RowsWf (w : World) (a : Option Addr) (len : Nat) (zss : List (List Int)) : Prop := RowsIs w a len zss ∧ WfP zss

theorem wf_zero : (Lit.int .i64 0).wf = true := by decide

theorem RowsWf.none_ (w : World) : RowsWf w none 0 [] := ⟨RowsIs.none_ w, fun g i => by simp; exact wf_zero⟩

theorem wf_getD {l : List Int} (h : ∀ n ∈ l, (Lit.int .i64 n).wf = true) (i : Nat) : (Lit.int .i64 (l.getD i 0)).wf = true := by
  rw [List.getD_eq_getElem?_getD]
  cases e : l[i]? with
  | none => exact wf_zero
  | some x => exact h x (List.mem_of_getElem? e)

theorem RowsWf.some_ {w : World} {a : Addr} {len cap : Nat} {A : Nat → Option Addr} {L C : Nat → Nat} {Z : Nat → List Int} (hl : len ≤ cap) (hm : cap ≤ maxLen)
    (h : ∀ r, r < cap → w.cell? (a.add r) = some (.slice (A r) (L r) (C r)) ∧ L r ≤ C r ∧ C r ≤ maxLen ∧ (Z r).length = C r ∧ (∀ n ∈ Z r, (Lit.int .i64 n).wf = true) ∧ (A r = none → C r = 0) ∧
        ∀ a', A r = some a' → (0 : Nat) ≤ a'.block ∧ ∀ c, c < C r → w.cell? (a'.add c) = some (.int .i64 ((Z r).getD c 0))) :
    RowsWf w (some a) len ((List.range len).map fun r => (Z r).take (L r)) := by
  refine ⟨RowsIs.some_ hl hm h, fun g i => ?_⟩
  by_cases hg : g < len
  · have e : ((List.range len).map fun r => (Z r).take (L r)).getD g [] = (Z g).take (L g) := by simp [hg]
    rw [e]
    exact wf_getD (fun n hn => (h g (by omega)).2.2.2.2.1 n (List.mem_of_mem_take hn)) i
  · have e : ((List.range len).map fun r => (Z r).take (L r)).getD g [] = [] := by
      rw [List.getD_eq_getElem?_getD, List.getElem?_eq_none (by simp; omega)]; rfl
    rw [e]
    exact wf_getD (fun n hn => by cases hn) i
end Go.Proofs.Ythnkilacknoklaa
