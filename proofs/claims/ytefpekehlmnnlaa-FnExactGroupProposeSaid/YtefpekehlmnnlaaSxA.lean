/-
  Contracts of the exact laws' helpers toStamp, toHybrid, eqStamp, eqHybrid; the walks of the exact laws of StampValid, HybridValid, HybridTick. No condition.
-/
import Derived.Test.YtefpekehlmnnlaaStE
import Derived.Test.YtefpekehlmnnlaaExA
namespace Go.Proofs.Ytefpekehlmnnlaa
open Go.RowKit

set_option maxHeartbeats 400000 in
theorem toStamp_any (a b : Int) (w : World) :
    Calls Try.prog 23 #[two a b] w fun e w' => e = .returned (two a b) ∧ Below w.heap.size w w' := by
  have B := hid (below3 w (.cells #[.int .i64 a, .int .i64 b] 43) (.cells #[.int .i64 a, .int .i64 b] 38) (.cells #[.int .i64 a, .int .i64 b] 38))
  go_enter Try.func23, Try.ntmps23
  go_wp2
  exact bodyPost_ret (v := two a b) (by simp [results, Try.results23, go_sem]) rfl ⟨rfl, B.out⟩

set_option maxHeartbeats 400000 in
theorem eqStamp_same (a b : Int) (w : World) :
    Calls Try.prog 21 #[two a b, two a b] w fun e w' => e = .returned (.bool true) ∧ Below w.heap.size w w' := by
  have B := hid (below2 w (.cells #[.int .i64 a, .int .i64 b] 38) (.cells #[.int .i64 a, .int .i64 b] 38))
  go_enter Try.func21, Try.ntmps21
  go_wp2
  go_ret
  exact ⟨rfl, B.out⟩

end Go.Proofs.Ytefpekehlmnnlaa
