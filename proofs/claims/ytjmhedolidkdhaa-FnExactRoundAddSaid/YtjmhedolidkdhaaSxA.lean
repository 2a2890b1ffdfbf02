/-
  Contracts of the exact laws' helpers toStamp, toHybrid, eqStamp, eqHybrid; the walks of the exact laws of StampValid, HybridValid, HybridTick. No condition.
-/
import Derived.Test.YtjmhedolidkdhaaStE
import Derived.Test.YtjmhedolidkdhaaExA
namespace Go.Proofs.Ytjmhedolidkdhaa
open Go.RowKit

set_option maxHeartbeats 400000 in
theorem toStamp_any (a b : Int) (w : World) :
    Calls Try.prog 21 #[two a b] w fun e w' => e = .returned (two a b) ∧ Below w.heap.size w w' := by
  have B := hid (below3 w (.cells #[.int .i64 a, .int .i64 b] 42) (.cells #[.int .i64 a, .int .i64 b] 44) (.cells #[.int .i64 a, .int .i64 b] 44))
  go_enter Try.func21, Try.ntmps21
  go_wp2
  exact bodyPost_ret (v := two a b) (by simp [results, Try.results21, go_sem]) rfl ⟨rfl, B.out⟩

set_option maxHeartbeats 400000 in
theorem eqStamp_same (a b : Int) (w : World) :
    Calls Try.prog 28 #[two a b, two a b] w fun e w' => e = .returned (.bool true) ∧ Below w.heap.size w w' := by
  have B := hid (below2 w (.cells #[.int .i64 a, .int .i64 b] 44) (.cells #[.int .i64 a, .int .i64 b] 44))
  go_enter Try.func28, Try.ntmps28
  go_wp2
  go_ret
  exact ⟨rfl, B.out⟩

end Go.Proofs.Ytjmhedolidkdhaa
