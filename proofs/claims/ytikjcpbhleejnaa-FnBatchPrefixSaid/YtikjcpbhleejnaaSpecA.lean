/-
  Contracts of the plain readers over one slice: l6In, l1Group, l1Has, spec.GroupsValid, hasInt, sameInts. No condition but lengths below 2^40.
-/
import Derived.Test.YtikjcpbhleejnaaWords
import Derived.Test.YtikjcpbhleejnaaPure
namespace Go.Proofs.Ytikjcpbhleejnaa
open Go.RowKit

set_option maxHeartbeats 400000 in
theorem l6In_any (n lo hi : Int) (w : World) :
    Calls Try.prog 25 #[.int .i64 n, .int .i64 lo, .int .i64 hi] w fun e w' => e = .returned (.bool (inB n lo hi)) ∧ w = w' := by
  go_enter Try.func25, Try.ntmps25
  go_wp2
  all_goals go_ret
  · exact ⟨ret_bool (by simp [inB, *]), rfl⟩
  · exact ⟨ret_bool (by simp [inB, *]; omega), rfl⟩

end Go.Proofs.Ytikjcpbhleejnaa
