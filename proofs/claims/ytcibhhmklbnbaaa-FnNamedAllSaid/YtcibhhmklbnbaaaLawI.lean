/-
  The walk of the law FnNamedAll. No condition.
-/
import Derived.Test.YtcibhhmklbnbaaaLawB
import Derived.Test.YtcibhhmklbnbaaaPureG
namespace Go.Proofs.Ytcibhhmklbnbaaa
open Go.RowKit

set_option maxHeartbeats 2000000 in
theorem lawNamedAll {a : Option Addr} {len cap : Nat} {cs : List Int} (w : World) (h : RowIs .u8 w a len cap cs) :
    Calls Try.prog 6 #[.slice a len cap] w fun e w' => e = .returned (.bool true) ∧ Below w.heap.size w w' := by
  have h' := hid h
  clear h
  by_cases hbig : len ≤ 1048576
  · go_enter Try.func6, Try.ntmps6
    go_wp2_with fail
    refine (DrawGroupsLinked_any w h'.out).mono ?_
    rintro e w1 ⟨v, zss, x, rfl, ho, hzl, hsh, hb1⟩
    obtain ⟨A, c, rfl, hr1⟩ := ho.form
    have hr1' := hid hr1
    have hB1 := hid hb1
    have hs1 := hb1.size
    have hsh' := hid hsh.short
    have hsh6 := hid hsh
    clear ho hr1 hb1 hsh
    obtain ⟨R, hR⟩ : ∃ R, linkedR zss x = R := ⟨_, rfl⟩
    have hRl : R.length ≤ 5 := by rw [← hR]; exact linkedR_len zss x
    have hR' := hid hR
    clear hR
    go_wp2_with fail
    refine (GroupsLinked_impl x _ hr1'.out (by omega) hsh'.out).mono ?_
    rw [hR'.out]
    rintro e w2 ⟨v, rfl, ho, hb⟩
    have lg_2 := hid (Lv.ofI ho)
    have hr2 := hid (hr1'.out.step hb)
    have hB2 := hid (hB1.out.trans (hb.mono hs1))
    have hs2 := hB2.out.size
    clear ho hb hB1 hr1'
    obtain ⟨A2, c2, rfl⟩ := lg_2.out.rd
    go_wp2_with fail
    refine (GroupsLinked_spec x _ hr2.out (by omega) hsh'.out).mono ?_
    rw [hR'.out]
    rintro e w3 ⟨v, rfl, ho, hb⟩
    have lp_3 := hid (Lv.ofI ho)
    have lg_3 := hid (lg_2.out.step hb)
    have hr3 := hid (hr2.out.step hb)
    have hB3 := hid (hB2.out.trans (hb.mono hs2))
    have hs3 := hB3.out.size
    clear ho hb hB2 hr2 lg_2
    obtain ⟨A3, c3, rfl⟩ := lp_3.out.rd
    go_wp2_with fail
    refine (sameInts_any _ lg_3.out.at_ lp_3.out.at_ (by omega) (by omega)).mono ?_
    rw [sameB_self]
    rintro e w4 ⟨rfl, hq⟩
    have lg_4 := hid (lg_3.out.quiet hq)
    have lp_4 := hid (lp_3.out.quiet hq)
    have hr4 := hid (hr3.out.stepQ hq)
    have hB4 := hid (hB3.out.trans (hq.below _))
    have hs4 := hB4.out.size
    clear hq hB3 hr3 lg_3 lp_3
    by_cases h0 : R.length = 1
    case neg =>
      have hz : ((R.length : Int) != 1) = true := by rw [bne_iff_ne]; omega
      clear h0
      go_wp2_with fail
      refine (sameInts_any _ lg_4.out.at_ lp_4.out.at_ (by omega) (by omega)).mono ?_
      rw [sameB_self]
      rintro e w5 ⟨rfl, hq⟩
      go_wp2
      go_ret
      exact ⟨rfl, hB4.out.trans (hq.below _)⟩
    have hz : ((R.length : Int) != 1) = false := by rw [h0]; rfl
    obtain ⟨N, hN⟩ : ∃ N, namedR zss x = N := ⟨_, rfl⟩
    have hNl : N.length ≤ 12 := by rw [← hN]; exact namedR_len zss x
    have hone : ∀ k : Nat, k < N.length → ∃ i : Nat, i < zss.length ∧ N.getD k 0 = (i : Int) ∧ (zss.getD i []).length = 1 := by
      rw [← hN]
      exact fun k hk => named_single (by rw [hR'.out]; exact h0) hk
    have hone' := hid hone
    have hN' := hid hN
    clear h0 hN hone lp_4 lg_4
    go_wp2_with fail
    refine (GroupsNamed_impl x _ hr4.out (by omega) hsh'.out).mono ?_
    rw [hN'.out]
    rintro e w5 ⟨v, rfl, ho, hb⟩
    have ln_5 := hid (Lv.ofI ho)
    have hr5 := hid (hr4.out.step hb)
    have hB5 := hid (hB4.out.trans (hb.mono hs4))
    clear ho hb hB4 hr4 hs4
    obtain ⟨A5, c5, rfl⟩ := ln_5.out.rd
    go_wp2
    go_loop [8] (fun i => ∃ k : Nat, k ≤ N.length ∧ i = .int .i64 k) (fun i => N.length - (intOf i).toNat)
    case atStart => exact ⟨0, by omega, rfl⟩
    case round =>
      obtain ⟨k, hk, rfl⟩ := hrel
      by_cases hlt : k < N.length
      · obtain ⟨i, hi, hNi, hsg⟩ := hone'.out k hlt
        obtain ⟨adR, z, e2, hzk, hcR⟩ := RdI.at' ln_5.out.at_ hlt
        subst e2
        obtain rfl : z = (i : Int) := by rw [← hzk.out]; exact hNi
        obtain ⟨ad, Ai, m, ci, zs, rfl, hzs, hm, hc, hri⟩ := RdL.at' hr5.out hi
        obtain rfl : m = 1 := by rw [← hm.out, ← hzs.out]; exact hsg
        clear hri hsg hNi hzk hzs hm
        go_wp2
        go_round
        case rel => exact ⟨k + 1, by omega, by go_num⟩
        case measure => simp [intOf]; omega
      · go_wp2
        go_ret
        exact ⟨rfl, hB5.out⟩
  · go_enter Try.func6, Try.ntmps6
    go_wp2
    go_ret
    exact ⟨rfl, Below.refl _ _⟩

end Go.Proofs.Ytcibhhmklbnbaaa
