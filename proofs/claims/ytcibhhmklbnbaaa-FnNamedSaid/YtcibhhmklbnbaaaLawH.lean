/-
  The walk of the law FnNamed. No condition.
-/
import Derived.Test.YtcibhhmklbnbaaaLawB
import Derived.Test.YtcibhhmklbnbaaaPureG
import Derived.Deep.RegionHeld3
namespace Go.Proofs.Ytcibhhmklbnbaaa
open Go.RowKit

set_option maxHeartbeats 1000000 in
theorem lawNamed {a : Option Addr} {len cap : Nat} {cs : List Int} (w : World) (h : RowIs .u8 w a len cap cs) :
    Calls Try.prog 5 #[.slice a len cap] w fun e w' => e = .returned (.bool true) ∧ Below w.heap.size w w' := by
  have h' := hid h
  clear h
  by_cases hbig : len ≤ 1048576
  · go_enter Try.func5, Try.ntmps5
    go_wp2_with fail
    refine (DrawGroupsNamed_any w h'.out).mono ?_
    rintro e w1 ⟨v, zss, x, rfl, ho, hzl, hsh, hb1⟩
    obtain ⟨A, c, rfl, hr1⟩ := ho.form
    have hr1' := hid hr1
    have hB1 := hid hb1
    have hs1 := hb1.size
    have hsh' := hid hsh.short
    have hsh6 := hid hsh
    clear ho hr1 hb1 hsh
    obtain ⟨R, hR⟩ : ∃ R, namedR zss x = R := ⟨_, rfl⟩
    have hRl : R.length ≤ 12 := by rw [← hR]; exact namedR_len zss x
    have hR' := hid hR
    clear hR
    go_wp2_with fail
    refine (GroupsNamed_impl x _ hr1'.out (by omega) hsh'.out).mono ?_
    rw [hR'.out]
    rintro e w2 ⟨v, rfl, ho, hb⟩
    have lg_2 := hid (Lv.ofI ho)
    have hr2 := hid (hr1'.out.step hb)
    have hB2 := hid (hB1.out.trans (hb.mono hs1))
    have hs2 := hB2.out.size
    clear ho hb hB1 hr1'
    obtain ⟨A2, c2, rfl⟩ := lg_2.out.rd
    go_wp2_with fail
    refine (GroupsNamed_spec x _ hr2.out (by omega) hsh'.out).mono ?_
    rw [hR'.out]
    rintro e w3 ⟨v, rfl, ho, hb⟩
    have lp_3 := hid (Lv.ofI ho)
    have lg_3 := hid (lg_2.out.step hb)
    have hr3 := hid (hr2.out.step hb)
    have hB3 := hid (hB2.out.trans (hb.mono hs2))
    have hs3 := hB3.out.size
    clear ho hb hB2 hr2 lg_2
    obtain ⟨A3, c3, rfl⟩ := lp_3.out.rd
    go_wp2_with fail
    refine (sameInts_any _ lg_3.out.at_ lp_3.out.at_ (by omega) (by omega)).mono ?_
    rw [sameB_self]
    rintro e w4 ⟨rfl, hq⟩
    have lg_4 := hid (lg_3.out.quiet hq)
    have lp_4 := hid (lp_3.out.quiet hq)
    have hr4 := hid (hr3.out.stepQ hq)
    have hB4 := hid (hB3.out.trans (hq.below _))
    have hs4 := hB4.out.size
    clear hq hB3 hr3 lg_3 lp_3
    by_cases h0 : R.length = 0
    · have hz : ((R.length : Int) == 0) = true := by simp [h0]
      have h0' := hid h0
      clear h0
      go_wp2_with fail
      refine (sameInts_any _ lg_4.out.at_ lp_4.out.at_ (by omega) (by omega)).mono ?_
      rw [sameB_self]
      rintro e w5 ⟨rfl, hq⟩
      go_wp2
      go_ret
      exact ⟨rfl, hB4.out.trans (hq.below _)⟩
    · have hz : ((R.length : Int) == 0) = false := by rw [beq_eq_false_iff_ne]; omega
      have hgood := named_good (zss := zss) (x := x) (by rw [hR'.out]; omega)
      obtain ⟨h1, h2⟩ := goodB_true hgood
      have h1' := hid h1
      have h2' := hid h2
      clear h0 hgood h1 h2 lp_4
      obtain ⟨n, hn⟩ : ∃ n, zss.length = n := ⟨_, rfl⟩
      rw [hn] at hzl
      rw [hn]
      have hr4' := hid (show RdL w4 w4.heap.size A n zss by rw [← hn]; exact hr4.out)
      have hn' := hid hn
      clear hn hr4
      go_wp2
      go_loopw [7] (fun i wr => ∃ k : Nat, k ≤ n ∧ i = .int .i64 k ∧ Below w4.heap.size w4 wr) (fun i _ => n - (intOf i).toNat)
      case atStart => exact ⟨0, by omega, rfl, Below.refl _ _⟩
      case round =>
        obtain ⟨k, hk, rfl, hbel⟩ := hrel
        have hsz := hbel.size
        by_cases hlt : k < n
        · obtain ⟨ad, Ai, m, ci, zs, rfl, hzs, hm, hc, hri⟩ := RdL.at' (hr4'.out.below hbel) hlt
          obtain rfl : zs.length = m := hm.out
          have hml : zs.length ≤ 6 := by rw [← hzs.out]; exact hsh6.out k
          have hr : hasB R (k : Int) = hasB zs x := by
            rw [← hR'.out, ← hzs.out]
            exact named_has h1'.out h2'.out (by rw [hn'.out]; exact hlt)
          have hri' := hid (Reads.more hri hsz)
          have lg_r := hid (lg_4.out.step hbel)
          have hadB : ad.block < wr.heap.size := by have := World.block_lt_of_cell? wr _ hc; rwa [block_of_add] at this
          have hcall1 : ∀ q : Nat, Calls Try.prog 11 #[.slice A2 R.length c2, .int .i64 (k : Int)] (wr.drewN q) fun e w' => e = .returned (.bool (hasB zs x)) ∧ wr.drewN q = w' := by
            intro q
            have := hasInt_any (c := c2) (k : Int) (wr.drewN q) (Reads.drewN lg_r.out.at_ q) (by omega)
            rw [hr] at this
            exact this
          have hcall1' := hid hcall1
          have hcall2 : ∀ q : Nat, Calls Try.prog 11 #[.slice Ai zs.length ci, .int .i64 x] (wr.drewN q) fun e w' => e = .returned (.bool (hasB zs x)) ∧ wr.drewN q = w' := by
            intro q
            exact hasInt_any (c := ci) x (wr.drewN q) (Reads.drewN hri'.out q) (by omega)
          have hcall2' := hid hcall2
          have hne : (hasB zs x != hasB zs x) = false := by simp
          clear hri hcall1 hcall2 hr
          go_wp2
          go_quiet ((first | (go_at_call 11; (with_reducible exact same_call (hcall1'.out _))) | (go_at_call 11; (with_reducible exact same_call (hcall2'.out _)))))
          go_wp2
          go_roundw
          case rel => exact ⟨k + 1, by omega, by go_num, below_drewN hbel _⟩
          case measure => simp [intOf]; omega
        · go_wp2
          go_ret
          exact ⟨rfl, hB4.out.trans (hbel.mono hs4)⟩
  · go_enter Try.func5, Try.ntmps5
    go_wp2
    go_ret
    exact ⟨rfl, Below.refl _ _⟩

end Go.Proofs.Ytcibhhmklbnbaaa
