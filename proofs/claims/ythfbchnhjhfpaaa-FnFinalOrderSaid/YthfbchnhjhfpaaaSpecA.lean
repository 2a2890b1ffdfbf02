/-
  Contracts of the plain readers over one slice: l6In, l1Group, l1Has, spec.GroupsValid, hasInt, sameInts. No condition but lengths below 2^40.
-/
import Derived.Test.YthfbchnhjhfpaaaWords
import Derived.Test.YthfbchnhjhfpaaaPure
namespace Go.Proofs.Ythfbchnhjhfpaaa
open Go.RowKit

set_option maxHeartbeats 400000 in
theorem l6In_any (n lo hi : Int) (w : World) :
    Calls Try.prog 53 #[.int .i64 n, .int .i64 lo, .int .i64 hi] w fun e w' => e = .returned (.bool (inB n lo hi)) ∧ w = w' := by
  go_enter Try.func53, Try.ntmps53
  go_wp2
  all_goals go_ret
  · exact ⟨ret_bool (by simp [inB, *]), rfl⟩
  · exact ⟨ret_bool (by simp [inB, *]; omega), rfl⟩

set_option maxHeartbeats 400000 in
theorem l1Group_any (n : Int) (w : World) :
    Calls Try.prog 36 #[.int .i64 n] w fun e w' => e = .returned (.bool (grB n)) ∧ w = w' := by
  go_enter Try.func36, Try.ntmps36
  go_wp2_with (go_at_call 53; refine (l6In_any _ _ _ _).mono ?_; rintro e w' ⟨rfl, rfl⟩)
  go_ret
  exact ⟨rfl, rfl⟩

end Go.Proofs.Ythfbchnhjhfpaaa
