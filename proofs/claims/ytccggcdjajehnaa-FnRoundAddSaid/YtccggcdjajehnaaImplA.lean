/-
  Contracts of the program's sets of groups: the methods on masks, groupSetOf, GroupsValid. A mask is below 32, a group from 0 to 4. No condition but lengths below 2^40.
-/
import Derived.Test.YtccggcdjajehnaaSpecC
namespace Go.Proofs.Ytccggcdjajehnaa
open Go.RowKit

set_option maxHeartbeats 400000 in
theorem groupExists_any (n : Int) (w : World) :
    Calls Try.prog 60 #[.int .i64 n] w fun e w' => e = .returned (.bool (grB n)) ∧ w = w' := by
  go_enter Try.func60, Try.ntmps60
  go_wp2
  all_goals go_ret
  · exact ⟨ret_bool (by simp [grB, inB, *]; omega), rfl⟩
  · exact ⟨ret_bool (by simp [grB, inB, *]; omega), rfl⟩

theorem wrap_pow {g : Nat} (hg : g < 5) : IntKind.u64.wrap ((2 : Int) ^ g) = ((2 ^ g : Nat) : Int) := by
  have : g = 0 ∨ g = 1 ∨ g = 2 ∨ g = 3 ∨ g = 4 := by omega
  rcases this with rfl | rfl | rfl | rfl | rfl <;> decide

theorem or_pow {m g : Nat} (hm : m < 32) (hg : g < 5) : bits .or .u64 (m : Int) (IntKind.u64.wrap ((2 : Int) ^ g)) = ((m ||| 2 ^ g : Nat) : Int) := by
  rw [wrap_pow hg]
  have h2 : 2 ^ g < 2 ^ 5 := Nat.pow_lt_pow_of_lt (by decide) hg
  exact u64_or_nat _ _ (by omega) (by omega)

theorem bit_test {m g : Nat} (hm : m < 32) : (bits .and .u64 ((m : Int) / 2 ^ g) 1 == 1) = m.testBit g := by
  have h1 : (m : Int) / 2 ^ g = ((m / 2 ^ g : Nat) : Int) := by simp
  have h2 : m / 2 ^ g < 18446744073709551616 := Nat.lt_of_le_of_lt (Nat.div_le_self _ _) (by omega)
  rw [h1]
  rw [show bits .and .u64 ((m / 2 ^ g : Nat) : Int) 1 = ((m / 2 ^ g &&& 1 : Nat) : Int) from u64_and_nat _ 1 h2 (by decide)]
  rw [Nat.testBit, Nat.shiftRight_eq_div_pow, Nat.and_comm 1]
  rw [Nat.and_one_is_mod]
  have h3 := Nat.mod_two_eq_zero_or_one (m / 2 ^ g)
  rcases h3 with h3 | h3 <;> rw [h3] <;> rfl

set_option maxHeartbeats 400000 in
theorem with_any (m : Nat) (z : Int) (hm : m < 32) (hz : grB z = true) (w : World) :
    Calls Try.prog 61 #[.int .u64 m, .int .i64 z] w fun e w' => e = .returned (.int .u64 (m ||| 2 ^ z.toNat : Nat)) ∧ w = w' := by
  obtain ⟨h0, h4⟩ := grB_true.1 hz
  obtain ⟨g, rfl⟩ := Int.eq_ofNat_of_zero_le h0
  clear hz h0
  rw [Int.toNat_natCast]
  have hg : g < 5 := by omega
  go_enter Try.func61, Try.ntmps61
  go_wp2
  go_ret
  exact ⟨ret_int (or_pow hm hg), rfl⟩

set_option maxHeartbeats 400000 in
theorem has_any (m : Nat) (z : Int) (hm : m < 32) (hz : grB z = true) (w : World) :
    Calls Try.prog 45 #[.int .u64 m, .int .i64 z] w fun e w' => e = .returned (.bool (m.testBit z.toNat)) ∧ w = w' := by
  obtain ⟨h0, h4⟩ := grB_true.1 hz
  obtain ⟨g, rfl⟩ := Int.eq_ofNat_of_zero_le h0
  clear hz h0
  rw [Int.toNat_natCast]
  have hg : g < 5 := by omega
  go_enter Try.func45, Try.ntmps45
  go_wp2
  go_ret
  exact ⟨ret_bool (bit_test hm), rfl⟩

set_option maxHeartbeats 400000 in
theorem groups_any (m : Nat) (hm : m < 32) (w : World) :
    Calls Try.prog 41 #[.int .u64 m] w fun e w' => ∃ v, e = .returned v ∧ OwI w' w.heap.size v (elemsM m) ∧ Below w.heap.size w w' := by
  go_enter Try.func41, Try.ntmps41
  go_wp2
  go_loopw [3, 6] (fun o i wr => ∃ k : Nat, k ≤ 5 ∧ i = .int .i64 k ∧ OwI wr w.heap.size o ((grps k).filter fun g => m.testBit g.toNat) ∧ Below w.heap.size w wr) (fun _ i _ => 5 - (intOf i).toNat)
  case atStart => exact ⟨0, by omega, rfl, OwI.empty_lit w (Nat.le_refl _), (Below.refl _ _).alloc (Nat.le_refl _) _⟩
  case round =>
    obtain ⟨k, hk, rfl, hown, hbel⟩ := hrel
    have hsz := hbel.size
    have hll := grps_len (fun g => m.testBit g.toNat) k
    by_cases hlt : k < 5
    · have hg := hid (grB_true.2 (show (0 : Int) ≤ (k : Int) ∧ (k : Int) ≤ 4 by omega))
      by_cases hp : m.testBit ((k : Int).toNat) = true
      · have hnew := hid (grps_hit (p := fun g => m.testBit g.toNat) (k := k) hp)
        have hp' := hid hp
        clear hp
        go_wp2_with (first
          | (go_at_call 45; (with_reducible refine (has_any m k hm hg.out _).mono ?_); rw [hp'.out]; rintro e w' ⟨rfl, rfl⟩)
          | (at_builtin; refine wpList_app1 rfl (.tmp 12) (.tmp 14) rfl w.heap.size k _ _ rfl rfl hown hsz (by omega) ?_; intro v' w1 hown' hbel'))
        go_roundw
        case rel => exact ⟨k + 1, by omega, by go_num, by rw [hnew.out]; exact hown', hbel.trans hbel'⟩
        case measure => simp [intOf]; omega
      · have hp0 : m.testBit ((k : Int).toNat) = false := by simpa using hp
        have hnew := hid (grps_miss (p := fun g => m.testBit g.toNat) (k := k) hp0)
        have hp' := hid hp0
        clear hp hp0
        go_wp2_with (go_at_call 45; (with_reducible refine (has_any m k hm hg.out _).mono ?_); rw [hp'.out]; rintro e w' ⟨rfl, rfl⟩)
        go_roundw
        case rel => exact ⟨k + 1, by omega, by go_num, by rw [hnew.out]; exact hown, hbel⟩
        case measure => simp [intOf]; omega
    · obtain rfl : k = 5 := by omega
      go_wp2
      go_ret
      exact ⟨_, rfl, hown, hbel⟩

set_option maxHeartbeats 400000 in
theorem groupSetOf_any {B n c : Nat} {A : Option Addr} {zs : List Int} (w : World) (hr : RdI w B A n zs) (hn : n < 1099511627776) :
    Calls Try.prog 57 #[.slice A n c] w fun e w' => e = .returned (.tuple #[.int .u64 (maskR zs : Nat), .bool (gvalid zs)]) ∧ w = w' := by
  have hl' := hid hr.len
  have hr' := hid hr
  clear hr
  go_enter Try.func57, Try.ntmps57
  go_wp2
  go_loop [4, 5, 10] (fun s l i => ∃ (k m : Nat) (la : Int), k ≤ n ∧ i = .int .i64 k ∧ s = .int .u64 m ∧ l = .int .i64 la ∧ m < 32 ∧ Hid (la = lastAt zs k) ∧ Hid (m = mk (zs.take k)) ∧ Hid (∀ j, j < k → okAt zs j = true)) (fun _ _ i => n - (intOf i).toNat)
  case atStart => exact ⟨0, 0, -1, Nat.zero_le _, rfl, rfl, rfl, by omega, rfl, rfl, hid (fun j h => by omega)⟩
  case round =>
    obtain ⟨k, m, la, hk, rfl, rfl, rfl, hm, hla, hmk, hall⟩ := hrel
    by_cases hlt : k < n
    · obtain ⟨ad, z, rfl, hz, hc⟩ := RdI.at' hr'.out hlt
      have hok := hid (okAt_last hz.out hla.out)
      by_cases hg : grB z = true
      · by_cases hlz : la < z
        · go_wp2_with (first
            | (go_at_call 60; (with_reducible refine (groupExists_any _ _).mono ?_); rintro e w' ⟨rfl, rfl⟩)
            | (go_at_call 61; (with_reducible refine (with_any _ _ hm hg _).mono ?_); rintro e w' ⟨rfl, rfl⟩))
          go_round
          case rel => exact ⟨k + 1, _, _, by omega, by go_num, rfl, rfl, or_lt32 hm (by have := grB_true.1 hg; omega), hid (by rw [lastAt, if_neg (by omega)]; exact hz.out.symm),
            hid (by rw [mk_take (by rw [hl'.out]; exact hlt) hz.out, ← hmk.out]), hid (fun j hj => by
              by_cases e : j = k
              · subst e; rw [hok.out, hg]; simpa using hlz
              · exact hall.out j (by omega))⟩
          case measure => simp [intOf]; omega
        · have hbad := hid (gvalid_of_bad (i := k) (by rw [hl'.out]; exact hlt) (by rw [hok.out]; simp [hlz]))
          go_wp2_with (go_at_call 60; (with_reducible refine (groupExists_any _ _).mono ?_); rintro e w' ⟨rfl, rfl⟩)
          go_ret2
          exact ⟨by rw [hbad.out, maskR_no hbad.out]; rfl, rfl⟩
      · have hg' : grB z = false := by simpa using hg
        clear hg
        have hbad := hid (gvalid_of_bad (i := k) (by rw [hl'.out]; exact hlt) (by rw [hok.out]; simp [hg']))
        go_wp2_with (go_at_call 60; (with_reducible refine (groupExists_any _ _).mono ?_); rintro e w' ⟨rfl, rfl⟩)
        go_ret2
        exact ⟨by rw [hbad.out, maskR_no hbad.out]; rfl, rfl⟩
    · have hfin := hid (gvalid_of_all (zs := zs) (fun i hi => hall.out i (by rw [hl'.out] at hi; omega)))
      have hmz := hid (maskR_fin hfin.out (show mk zs = m by rw [hmk.out, List.take_of_length_le (by rw [hl'.out]; omega)]))
      go_wp2
      go_ret2
      exact ⟨by rw [hmz.out, hfin.out, hl'.out]; rfl, rfl⟩

end Go.Proofs.Ytccggcdjajehnaa
