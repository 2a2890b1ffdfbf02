/-
  Plain mathematics of the reasons for which groups are linked.
-/
import Derived.Test.YtdahnideolaniaaPureD
namespace Go.Proofs.Ytdahnideolaniaa

def fullB (R zs : List Int) : Bool := decide ((commonR R zs).length = zs.length)
/-- has a reason been found before j? -/
def foundTo (R : List Int) (zss : List (List Int)) (x z : Int) (j : Nat) : Bool := (z == x) || (List.range j).any fun i => hasB (zss.getD i []) z && fullB R (zss.getD i [])
theorem foundTo_zero (R : List Int) (zss : List (List Int)) (x z : Int) : foundTo R zss x z 0 = (z == x) := by simp [foundTo]
theorem foundTo_succ (R : List Int) (zss : List (List Int)) (x z : Int) (j : Nat) : foundTo R zss x z (j + 1) = (foundTo R zss x z j || (hasB (zss.getD j []) z && fullB R (zss.getD j []))) := by
  simp only [foundTo, List.range_succ, List.any_append, List.any_cons, List.any_nil, Bool.or_false, Bool.or_assoc]
theorem foundTo_all {zss : List (List Int)} {x z : Int} (hz : z ∈ linkedR zss x) : foundTo (linkedR zss x) zss x z zss.length = true := by
  have hg := linked_good (zss := zss) (x := x) (List.length_pos_of_mem hz)
  obtain ⟨h1, h2⟩ := goodB_true hg
  have hz2 := hz
  rw [linkedR_yes h1 h2, elemsM_mem] at hz2
  obtain ⟨⟨a, b⟩, ht⟩ := hz2
  obtain ⟨c, d⟩ := grB_true.1 h2
  rw [foundTo, Bool.or_eq_true]
  rcases link_reason (zss := zss) (x := x) z.toNat ht with h | ⟨m, hm, hmz, hms⟩
  · left
    rw [beq_iff_eq]; omega
  · right
    rw [List.any_eq_true]
    rw [masks, List.mem_map] at hm
    obtain ⟨zs, hzs, rfl⟩ := hm
    obtain ⟨i, hi, rfl⟩ := List.getElem_of_mem hzs
    have e : zss.getD i [] = zss[i] := by simp [hi]
    have hv := setsB_get h1 hi
    rw [e] at hv
    refine ⟨i, by simpa using hi, ?_⟩
    rw [e, Bool.and_eq_true]
    constructor
    · rw [hasB_iff, gvalid_elems hv, elemsM_mem]
      exact ⟨⟨a, b⟩, hmz⟩
    · rw [fullB, decide_eq_true_eq, linkedR_yes h1 h2, common_elems (link_lt h1 h2) hv, sub_and hms, ← gvalid_elems hv]

end Go.Proofs.Ytdahnideolaniaa
