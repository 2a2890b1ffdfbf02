/-
  The walks of the laws FnUnion and FnUnionAgain. No condition.
-/
import Derived.Test.YtcibhhmklbnbaaaLawB
import Derived.Test.YtcibhhmklbnbaaaPureG
namespace Go.Proofs.Ytcibhhmklbnbaaa
open Go.RowKit

set_option maxHeartbeats 1000000 in
theorem DrawGroupsUnion_any {a : Option Addr} {len cap : Nat} {zs : List Int} (w : World) (h : RowIs .u8 w a len cap zs) :
    Calls Try.prog 7 #[.slice a len cap] w (DrawTwo w) := by
  have h' := hid h
  clear h
  go_enter Try.func7, Try.ntmps7
  go_wp2_with fail
  refine (DrawGroupsCommon_any w h'.out).mono ?_
  rintro e w1 ⟨v, u, xs, ys, rfl, ho1, ho2, hl1, hl2, hb1⟩
  have hall := hid (And.intro ho1 (And.intro ho2 (And.intro hl1 (And.intro hl2 hb1))))
  clear ho1 ho2 hl1 hl2 hb1
  go_wp2
  go_ret2
  exact ⟨v, u, xs, ys, rfl, hall.out.1, hall.out.2.1, hall.out.2.2.1, hall.out.2.2.2.1, hall.out.2.2.2.2⟩

set_option maxHeartbeats 2000000 in
theorem lawUnion {a : Option Addr} {len cap : Nat} {cs : List Int} (w : World) (h : RowIs .u8 w a len cap cs) :
    Calls Try.prog 3 #[.slice a len cap] w fun e w' => e = .returned (.bool true) ∧ Below w.heap.size w w' := by
  have h' := hid h
  clear h
  by_cases hbig : len ≤ 1048576
  · go_enter Try.func3, Try.ntmps3
    go_wp2_with fail
    refine (DrawGroupsUnion_any w h'.out).mono ?_
    rintro e w1 ⟨v, u, xs, ys, rfl, ho1, ho2, hl1, hl2, hb1⟩
    have la_1 := hid (Lv.ofI ho1)
    have lb_1 := hid (Lv.ofI ho2)
    have hB1 := hid hb1
    have hs1 := hb1.size
    clear ho1 ho2 hb1
    obtain ⟨A, c, rfl⟩ := la_1.out.rd
    obtain ⟨A', c', rfl⟩ := lb_1.out.rd
    obtain ⟨R, hR⟩ : ∃ R, unionR xs ys = R := ⟨_, rfl⟩
    have hRl : R.length ≤ 5 := by rw [← hR]; exact unionR_len xs ys
    have hR' := hid hR
    clear hR
    go_wp2_with fail
    refine (GroupsUnion_impl _ la_1.out.at_ lb_1.out.at_ (by omega) (by omega)).mono ?_
    rintro e w2 ⟨v, rfl, ho, hb⟩
    rw [hR'.out] at ho
    have lg_2 := hid (Lv.ofI ho)
    have la_2 := hid (la_1.out.step hb)
    have lb_2 := hid (lb_1.out.step hb)
    have hB2 := hid (hB1.out.trans (hb.mono hs1))
    have hs2 := hb.size
    clear ho hb la_1 lb_1 hB1
    obtain ⟨A2, c2, rfl⟩ := lg_2.out.rd
    go_wp2_with fail
    refine (GroupsUnion_spec _ la_2.out.at_ lb_2.out.at_ (by omega) (by omega)).mono ?_
    rintro e w3 ⟨v, rfl, ho, hb⟩
    rw [hR'.out] at ho
    have lp_3 := hid (Lv.ofI ho)
    have la_3 := hid (la_2.out.step hb)
    have lb_3 := hid (lb_2.out.step hb)
    have lg_3 := hid (lg_2.out.step hb)
    have hB3 := hid (hB2.out.trans (hb.mono (by omega)))
    have hs3 := hb.size
    clear ho hb la_2 lb_2 lg_2 hB2
    obtain ⟨A3, c3, rfl⟩ := lp_3.out.rd
    go_wp2_with fail
    refine (sameInts_any _ lg_3.out.at_ lp_3.out.at_ (by omega) (by omega)).mono ?_
    rw [sameB_self]
    rintro e w4 ⟨rfl, hq⟩
    have la_4 := hid (la_3.out.quiet hq)
    have lb_4 := hid (lb_3.out.quiet hq)
    have lg_4 := hid (lg_3.out.quiet hq)
    have lp_4 := hid (lp_3.out.quiet hq)
    have hB4 := hid (hB3.out.trans (hq.below _))
    clear hq la_3 lb_3 lg_3 lp_3 hB3
    by_cases h0 : R.length = 0
    · have hz : ((R.length : Int) == 0) = true := by simp [h0]
      have h0' := hid h0
      clear h0
      go_wp2_with fail
      refine (sameInts_any _ lg_4.out.at_ lp_4.out.at_ (by omega) (by omega)).mono ?_
      rw [sameB_self]
      rintro e w5 ⟨rfl, hq⟩
      go_wp2
      go_ret
      exact ⟨rfl, hB4.out.trans (hq.below _)⟩
    · have hz : ((R.length : Int) == 0) = false := by rw [beq_eq_false_iff_ne]; omega
      have hR0 := hid (show 0 < (unionR xs ys).length by rw [hR'.out]; omega)
      obtain ⟨h1, h2⟩ := unionR_good hR0.out
      have h1' := hid h1
      have h2' := hid h2
      have hv : gvalid R = true := by rw [← hR'.out]; exact unionR_valid hR0.out
      have hv' := hid hv
      clear h0 h1 h2 hv
      go_wp2
      go_loop [7] (fun i => ∃ k : Nat, k ≤ 5 ∧ i = .int .i64 k) (fun i => 5 - (intOf i).toNat)
      case atStart => exact ⟨0, by omega, rfl⟩
      case round =>
        obtain ⟨k, hk, rfl⟩ := hrel
        by_cases hlt : k < 5
        · have hh := unionR_has h1'.out h2'.out hlt
          rw [hR'.out] at hh
          cases hx : hasB xs (k : Int) with
          | true =>
            have hr : hasB R (k : Int) = true := by rw [hh, hx]; rfl
            clear hh
            go_wp2_with (first
              | (go_at_call 11; (with_reducible refine (hasInt_any _ _ lg_4.out.at_ (by omega)).mono ?_); rw [hr]; rintro e w' ⟨rfl, rfl⟩)
              | (go_at_call 11; (with_reducible refine (hasInt_any _ _ la_4.out.at_ (by omega)).mono ?_); rw [hx]; rintro e w' ⟨rfl, rfl⟩))
            go_round
            case rel => exact ⟨k + 1, by omega, by go_num⟩
            case measure => simp [intOf]; omega
          | false =>
            have hr : hasB R (k : Int) = hasB ys (k : Int) := by rw [hh, hx]; rfl
            clear hh
            have hne : (hasB ys (k : Int) != hasB ys (k : Int)) = false := by simp
            go_wp2_with (first
              | (go_at_call 11; (with_reducible refine (hasInt_any _ _ lg_4.out.at_ (by omega)).mono ?_); rw [hr]; rintro e w' ⟨rfl, rfl⟩)
              | (go_at_call 11; (with_reducible refine (hasInt_any _ _ la_4.out.at_ (by omega)).mono ?_); rw [hx]; rintro e w' ⟨rfl, rfl⟩)
              | (go_at_call 11; (with_reducible refine (hasInt_any _ _ lb_4.out.at_ (by omega)).mono ?_); rintro e w' ⟨rfl, rfl⟩))
            go_round
            case rel => exact ⟨k + 1, by omega, by go_num⟩
            case measure => simp [intOf]; omega
        · have hsum := union_common_len h1'.out h2'.out
          rw [hR'.out] at hsum
          have hcl := commonR_len xs ys
          obtain ⟨C, hC⟩ : ∃ C, commonR xs ys = C := ⟨_, rfl⟩
          rw [hC] at hsum hcl
          have hC' := hid hC
          have heq : ((R.length : Int) + (C.length : Int) == (xs.length : Int) + (ys.length : Int)) = true := by rw [beq_iff_eq]; omega
          clear hC hsum
          go_wp2_with fail
          refine (GroupsCommon_impl _ la_4.out.at_ lb_4.out.at_ (by omega) (by omega)).mono ?_
          rintro e w7 ⟨v, rfl, ho, hb⟩
          rw [hC'.out] at ho
          obtain ⟨A7, c7, rfl, _⟩ := ho.form
          have lg_7 := hid (lg_4.out.step hb)
          have hB7 := hid (hB4.out.trans (hb.mono hB4.out.size))
          clear ho hb
          go_wp2_with (go_at_call 13; (with_reducible refine (GroupsValid_impl _ lg_7.out.at_ (by omega)).mono ?_); rw [hv'.out]; rintro e w' ⟨rfl, rfl⟩)
          go_ret
          exact ⟨rfl, hB7.out⟩
  · go_enter Try.func3, Try.ntmps3
    go_wp2
    go_ret
    exact ⟨rfl, Below.refl _ _⟩

set_option maxHeartbeats 2000000 in
theorem lawUnionAgain {a : Option Addr} {len cap : Nat} {cs : List Int} (w : World) (h : RowIs .u8 w a len cap cs) :
    Calls Try.prog 4 #[.slice a len cap] w fun e w' => e = .returned (.bool true) ∧ Below w.heap.size w w' := by
  have h' := hid h
  clear h
  by_cases hbig : len ≤ 1048576
  · go_enter Try.func4, Try.ntmps4
    go_wp2_with fail
    refine (DrawGroupsUnion_any w h'.out).mono ?_
    rintro e w1 ⟨v, u, xs, ys, rfl, ho1, ho2, hl1, hl2, hb1⟩
    have la_1 := hid (Lv.ofI ho1)
    have lb_1 := hid (Lv.ofI ho2)
    have hB1 := hid hb1
    have hs1 := hb1.size
    clear ho1 ho2 hb1
    obtain ⟨A, c, rfl⟩ := la_1.out.rd
    obtain ⟨A', c', rfl⟩ := lb_1.out.rd
    obtain ⟨R, hR⟩ : ∃ R, unionR xs ys = R := ⟨_, rfl⟩
    have hRl : R.length ≤ 5 := by rw [← hR]; exact unionR_len xs ys
    have hR' := hid hR
    clear hR
    go_wp2_with fail
    refine (GroupsUnion_impl _ la_1.out.at_ lb_1.out.at_ (by omega) (by omega)).mono ?_
    rintro e w2 ⟨v, rfl, ho, hb⟩
    rw [hR'.out] at ho
    have lg_2 := hid (Lv.ofI ho)
    have la_2 := hid (la_1.out.step hb)
    have lb_2 := hid (lb_1.out.step hb)
    have hB2 := hid (hB1.out.trans (hb.mono hs1))
    have hs2 := hb.size
    clear ho hb la_1 lb_1 hB1
    obtain ⟨A2, c2, rfl⟩ := lg_2.out.rd
    go_wp2_with fail
    refine (GroupsUnion_spec _ la_2.out.at_ lb_2.out.at_ (by omega) (by omega)).mono ?_
    rintro e w3 ⟨v, rfl, ho, hb⟩
    rw [hR'.out] at ho
    have lp_3 := hid (Lv.ofI ho)
    have la_3 := hid (la_2.out.step hb)
    have lb_3 := hid (lb_2.out.step hb)
    have lg_3 := hid (lg_2.out.step hb)
    have hB3 := hid (hB2.out.trans (hb.mono (by omega)))
    have hs3 := hb.size
    clear ho hb la_2 lb_2 lg_2 hB2
    obtain ⟨A3, c3, rfl⟩ := lp_3.out.rd
    go_wp2_with fail
    refine (sameInts_any _ lg_3.out.at_ lp_3.out.at_ (by omega) (by omega)).mono ?_
    rw [sameB_self]
    rintro e w4 ⟨rfl, hq⟩
    have la_4 := hid (la_3.out.quiet hq)
    have lb_4 := hid (lb_3.out.quiet hq)
    have lg_4 := hid (lg_3.out.quiet hq)
    have lp_4 := hid (lp_3.out.quiet hq)
    have hB4 := hid (hB3.out.trans (hq.below _))
    clear hq la_3 lb_3 lg_3 lp_3 hB3
    by_cases h0 : R.length = 0
    · have hz : ((R.length : Int) == 0) = true := by simp [h0]
      have h0' := hid h0
      clear h0
      go_wp2_with fail
      refine (sameInts_any _ lg_4.out.at_ lp_4.out.at_ (by omega) (by omega)).mono ?_
      rw [sameB_self]
      rintro e w5 ⟨rfl, hq⟩
      go_wp2
      go_ret
      exact ⟨rfl, hB4.out.trans (hq.below _)⟩
    · have hz : ((R.length : Int) == 0) = false := by rw [beq_eq_false_iff_ne]; omega
      have hR0 := hid (show 0 < (unionR xs ys).length by rw [hR'.out]; omega)
      obtain ⟨h1, h2⟩ := unionR_good hR0.out
      have hself := hid (union_self h1)
      have hagain := hid (show unionR R ys = R by rw [← hR'.out]; exact union_again hR0.out)
      clear h0 h1 h2 lp_4
      go_wp2_with fail
      refine (GroupsUnion_impl _ la_4.out.at_ la_4.out.at_ (by omega) (by omega)).mono ?_
      rintro e w5 ⟨v, rfl, ho, hb⟩
      rw [hself.out] at ho
      have lx_5 := hid (Lv.ofI ho)
      have la_5 := hid (la_4.out.step hb)
      have lb_5 := hid (lb_4.out.step hb)
      have lg_5 := hid (lg_4.out.step hb)
      have hB5 := hid (hB4.out.trans (hb.mono hB4.out.size))
      clear ho hb la_4 lb_4 lg_4 hB4
      obtain ⟨A5, c5, rfl⟩ := lx_5.out.rd
      go_wp2_with fail
      refine (sameInts_any _ lx_5.out.at_ la_5.out.at_ (by omega) (by omega)).mono ?_
      rw [sameB_self]
      rintro e w6 ⟨rfl, hq⟩
      have lb_6 := hid (lb_5.out.quiet hq)
      have lg_6 := hid (lg_5.out.quiet hq)
      have hB6 := hid (hB5.out.trans (hq.below _))
      clear hq lx_5 la_5 lb_5 lg_5 hB5
      go_wp2_with fail
      refine (GroupsUnion_impl _ lg_6.out.at_ lb_6.out.at_ (by omega) (by omega)).mono ?_
      rintro e w7 ⟨v, rfl, ho, hb⟩
      rw [hagain.out] at ho
      have lx_7 := hid (Lv.ofI ho)
      have lg_7 := hid (lg_6.out.step hb)
      have hB7 := hid (hB6.out.trans (hb.mono hB6.out.size))
      clear ho hb lb_6 lg_6 hB6
      obtain ⟨A7, c7, rfl⟩ := lx_7.out.rd
      go_wp2_with fail
      refine (sameInts_any _ lx_7.out.at_ lg_7.out.at_ (by omega) (by omega)).mono ?_
      rw [sameB_self]
      rintro e w8 ⟨rfl, hq⟩
      go_wp2
      go_ret
      exact ⟨rfl, hB7.out.trans (hq.below _)⟩
  · go_enter Try.func4, Try.ntmps4
    go_wp2
    go_ret
    exact ⟨rfl, Below.refl _ _⟩

end Go.Proofs.Ytcibhhmklbnbaaa
