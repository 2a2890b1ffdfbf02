/-
  Contracts of the plain readers over one slice: l6In, l1Group, l1Has, spec.GroupsValid, hasInt, sameInts. No condition but lengths below 2^40.
-/
import Derived.Test.YtbnmeedmeikepaaWords
import Derived.Test.YtbnmeedmeikepaaPure
namespace Go.Proofs.Ytbnmeedmeikepaa
open Go.RowKit

set_option maxHeartbeats 400000 in
theorem l6In_any (n lo hi : Int) (w : World) :
    Calls Try.prog 50 #[.int .i64 n, .int .i64 lo, .int .i64 hi] w fun e w' => e = .returned (.bool (inB n lo hi)) ∧ w = w' := by
  go_enter Try.func50, Try.ntmps50
  go_wp2
  all_goals go_ret
  · exact ⟨ret_bool (by simp [inB, *]), rfl⟩
  · exact ⟨ret_bool (by simp [inB, *]; omega), rfl⟩

set_option maxHeartbeats 400000 in
theorem l1Group_any (n : Int) (w : World) :
    Calls Try.prog 49 #[.int .i64 n] w fun e w' => e = .returned (.bool (grB n)) ∧ w = w' := by
  go_enter Try.func49, Try.ntmps49
  go_wp2_with (go_at_call 50; refine (l6In_any _ _ _ _).mono ?_; rintro e w' ⟨rfl, rfl⟩)
  go_ret
  exact ⟨rfl, rfl⟩

set_option maxHeartbeats 400000 in
theorem hasInt_any {B n c : Nat} {A : Option Addr} {zs : List Int} (x : Int) (w : World) (hr : RdI w B A n zs) (hn : n < 1099511627776) :
    Calls Try.prog 19 #[.slice A n c, .int .i64 x] w fun e w' => e = .returned (.bool (hasB zs x)) ∧ w = w' := by
  have hl' := hid hr.len
  have hr' := hid hr
  clear hr
  go_enter Try.func19, Try.ntmps19
  go_wp2
  go_loop [5] (fun i => ∃ k : Nat, k ≤ n ∧ i = .int .i64 k ∧ Hid (∀ j, j < k → zs.getD j 0 ≠ x)) (fun i => n - (intOf i).toNat)
  case atStart => exact ⟨0, Nat.zero_le _, rfl, hid (fun j h => by omega)⟩
  case round =>
    obtain ⟨k, hk, rfl, hmiss⟩ := hrel
    by_cases hlt : k < n
    · obtain ⟨ad, z, rfl, hz, hc⟩ := hr'.out.at' hlt
      go_wp2
      · have h1 : (z == x) = true := by assumption
        go_ret
        exact ⟨ret_bool (hasB_hit (k := k) (by rw [hl'.out]; exact hlt) (hz.out.trans (by simpa using h1))).symm, rfl⟩
      · have h1 : (z == x) = false := by assumption
        go_round
        case rel => exact ⟨k + 1, by omega, by go_num, hid (fun j hj => by
            by_cases e : j = k
            · subst e; rw [hz.out]; simpa using h1
            · exact hmiss.out j (by omega))⟩
        case measure => simp [intOf]; omega
    · go_wp2
      go_ret
      exact ⟨ret_bool (hasB_miss (fun i hi => hmiss.out i (by rw [hl'.out] at hi; omega))).symm, rfl⟩

end Go.Proofs.Ytbnmeedmeikepaa
