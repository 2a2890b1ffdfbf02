/-
  Contracts of the program's sets of groups: the methods on masks, groupSetOf, GroupsValid. A mask is below 32, a group from 0 to 4. No condition but lengths below 2^40.
-/
import Derived.Test.YtbnmeedmeikepaaSpecC
namespace Go.Proofs.Ytbnmeedmeikepaa
open Go.RowKit

set_option maxHeartbeats 400000 in
theorem groupExists_any (n : Int) (w : World) :
    Calls Try.prog 43 #[.int .i64 n] w fun e w' => e = .returned (.bool (grB n)) ∧ w = w' := by
  go_enter Try.func43, Try.ntmps43
  go_wp2
  all_goals go_ret
  · exact ⟨ret_bool (by simp [grB, inB, *]; omega), rfl⟩
  · exact ⟨ret_bool (by simp [grB, inB, *]; omega), rfl⟩

theorem wrap_pow {g : Nat} (hg : g < 5) : IntKind.u64.wrap ((2 : Int) ^ g) = ((2 ^ g : Nat) : Int) := by
  have : g = 0 ∨ g = 1 ∨ g = 2 ∨ g = 3 ∨ g = 4 := by omega
  rcases this with rfl | rfl | rfl | rfl | rfl <;> decide

theorem or_pow {m g : Nat} (hm : m < 32) (hg : g < 5) : bits .or .u64 (m : Int) (IntKind.u64.wrap ((2 : Int) ^ g)) = ((m ||| 2 ^ g : Nat) : Int) := by
  rw [wrap_pow hg]
  have h2 : 2 ^ g < 2 ^ 5 := Nat.pow_lt_pow_of_lt (by decide) hg
  exact u64_or_nat _ _ (by omega) (by omega)

theorem bit_test {m g : Nat} (hm : m < 32) : (bits .and .u64 ((m : Int) / 2 ^ g) 1 == 1) = m.testBit g := by
  have h1 : (m : Int) / 2 ^ g = ((m / 2 ^ g : Nat) : Int) := by simp
  have h2 : m / 2 ^ g < 18446744073709551616 := Nat.lt_of_le_of_lt (Nat.div_le_self _ _) (by omega)
  rw [h1]
  rw [show bits .and .u64 ((m / 2 ^ g : Nat) : Int) 1 = ((m / 2 ^ g &&& 1 : Nat) : Int) from u64_and_nat _ 1 h2 (by decide)]
  rw [Nat.testBit, Nat.shiftRight_eq_div_pow, Nat.and_comm 1]
  rw [Nat.and_one_is_mod]
  have h3 := Nat.mod_two_eq_zero_or_one (m / 2 ^ g)
  rcases h3 with h3 | h3 <;> rw [h3] <;> rfl

end Go.Proofs.Ytbnmeedmeikepaa
