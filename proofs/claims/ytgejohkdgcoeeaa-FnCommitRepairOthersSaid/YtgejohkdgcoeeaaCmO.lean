/-
  The walks of the laws FnCommitRepair and FnCommitRepairOthers. No condition.
-/
import Derived.Test.YtgejohkdgcoeeaaCmN
namespace Go.Proofs.Ytgejohkdgcoeeaa
open Go.RowKit

theorem sameB_refl (zs : List Int) : sameB zs zs = true := by simp [sameB]

set_option maxHeartbeats 1000000 in
theorem lawCommitRepair {a : Option Addr} {len cap : Nat} {cs : List Int} (w : World) (h : RowIs .u8 w a len cap cs) :
    Calls Try.prog 6 #[.slice a len cap] w fun e w' => e = .returned (.bool true) ∧ Below w.heap.size w w' := by
  have h' := hid h
  clear h
  by_cases hbig : len ≤ 1048576
  · go_enter Try.func6, Try.ntmps6
    go_wp2_with fail
    refine (DrawCommitRepair_any w h'.out).mono ?_
    rintro e w1 ⟨v, u, xs, ys, rfl, ho1, ho2, _, hl1, hl2, hb1⟩
    have la_1 := hid (Lv.ofI ho1)
    have lb_1 := hid (Lv.ofI ho2)
    have hB1 := hid hb1
    clear ho1 ho2 hb1
    obtain ⟨A, c, rfl⟩ := la_1.out.rd
    obtain ⟨A', c', rfl⟩ := lb_1.out.rd
    obtain ⟨R, hR⟩ : ∃ R, repR xs ys = R := ⟨_, rfl⟩
    have hRl : R.length ≤ 14 := by rw [← hR]; have := repR_len xs ys; omega
    have hR' := hid hR
    clear hR
    go_wp2_with fail
    refine (CommitRepair_impl _ la_1.out.at_ lb_1.out.at_ (by omega) (by omega)).mono ?_
    rintro e w2 ⟨vg, rfl, og, b2⟩
    rw [hR'.out] at og
    have lg_2 := hid (Lv.ofI og)
    obtain ⟨Ag, cg, rfl⟩ := lg_2.out.rd
    have la_2 := hid (la_1.out.step b2)
    have lb_2 := hid (lb_1.out.step b2)
    have hB2 := hid (hB1.out.trans (b2.mono hB1.out.size))
    clear og b2 la_1 lb_1 hB1
    go_wp2_with fail
    refine (CommitRepair_spec _ la_2.out.at_ lb_2.out.at_ (by omega) (by omega)).mono ?_
    rintro e w3 ⟨vp, rfl, op, b3⟩
    rw [hR'.out] at op
    have lp_3 := hid (Lv.ofI op)
    obtain ⟨Ap, cp, rfl⟩ := lp_3.out.rd
    have la_3 := hid (la_2.out.step b3)
    have lb_3 := hid (lb_2.out.step b3)
    have lg_3 := hid (lg_2.out.step b3)
    have hB3 := hid (hB2.out.trans (b3.mono hB2.out.size))
    clear op b3 la_2 lb_2 lg_2 hB2
    cases hb : ldB xs ys with
    | false =>
      go_wp2_with fail
      refine (sameInts_any _ lg_3.out.at_ lp_3.out.at_ (by omega) (by omega)).mono ?_
      rw [sameB_refl]
      rintro e w4 ⟨rfl, hq⟩
      have lg_4 := hid (lg_3.out.quiet hq)
      have lp_4 := hid (lp_3.out.quiet hq)
      have hB4 := hid (hB3.out.trans (hq.below _))
      clear hq
      go_wp2_with fail
      refine (sameInts_any _ lg_4.out.at_ lp_4.out.at_ (by omega) (by omega)).mono ?_
      rw [sameB_refl]
      rintro e w5 ⟨rfl, hq⟩
      have hB5 := hid (hB4.out.trans (hq.below _))
      go_wp2
      go_ret
      exact ⟨rfl, hB5.out⟩
    | true =>
      obtain ⟨hv, hlv⟩ := ldB_both hb
      have hRe : R = rep xs ys := by rw [← hR'.out, repR_yes hb]
      have hrng := ldr_rng hlv
      have hlr : Hid (ldrR xs ys = ldr xs ys) := hid (ldrR_yes hb)
      have hRlen : Hid (R.length = xs.length) := hid (by rw [hRe, rep_len])
      have hcx : Hid (∀ p q, CixR xs p → CixR R q → p ≤ q ∧ xs.getD (ldr xs ys).toNat 0 ≤ q) := hid (fun p q hp hq => by
        rw [hRe] at hq
        exact rep_cix hv hlv (hp.1 hv) (hq.1 (rep_valid hv hlv)))
      obtain ⟨hr0, hr1⟩ := hrng
      obtain ⟨g, hg⟩ := Int.eq_ofNat_of_zero_le hr0
      rw [hg] at hlr hcx hr1
      clear hv hlv hRe hr0 hg
      go_wp2_with fail
      refine (sameInts_any _ lg_3.out.at_ lp_3.out.at_ (by omega) (by omega)).mono ?_
      rw [sameB_refl]
      rintro e w4 ⟨rfl, hq⟩
      have la_4 := hid (la_3.out.quiet hq)
      have lb_4 := hid (lb_3.out.quiet hq)
      have lg_4 := hid (lg_3.out.quiet hq)
      have hB4 := hid (hB3.out.trans (hq.below _))
      clear hq la_3 lb_3 lg_3 lp_3 hB3
      go_wp2_with fail
      refine (CommitLeader_impl _ la_4.out.at_ lb_4.out.at_ (by omega) (by omega)).mono ?_
      rw [hlr.out]
      rintro e w5 ⟨rfl, hb5⟩
      have la_5 := hid (la_4.out.step hb5)
      have lg_5 := hid (lg_4.out.step hb5)
      have hB5 := hid (hB4.out.trans (hb5.mono hB4.out.size))
      clear hb5 la_4 lb_4 lg_4 hB4
      go_wp2_with fail
      refine (CommitIndex_impl _ lg_5.out.at_ (Nat.le_refl _) (by omega)).mono ?_
      rintro e w6 ⟨q, rfl, hcq, hb6⟩
      have la_6 := hid (la_5.out.step hb6)
      have hB6 := hid (hB5.out.trans (hb6.mono hB5.out.size))
      have hcq' := hid hcq
      clear hb6 la_5 lg_5 hB5 hcq
      go_wp2_with fail
      refine (CommitIndex_impl _ la_6.out.at_ (Nat.le_refl _) (by omega)).mono ?_
      rintro e w7 ⟨p, rfl, hcp, hb7⟩
      have hx7 := hid (la_6.out.step hb7).at_
      have hB7 := hid (hB6.out.trans (hb7.mono hB6.out.size))
      obtain ⟨h1, h2⟩ := hcx.out p q hcp hcq'.out
      rw [Int.toNat_natCast] at h2
      clear hb7 la_6 hB6 hcp
      have hgn : g < xs.length := by omega
      obtain ⟨ad, z, rfl, hz, hc⟩ := RdI.at' hx7.out hgn
      rw [hz.out] at h2
      rw [hRlen.out]
      obtain ⟨n, hn⟩ : ∃ n, xs.length = n := ⟨_, rfl⟩
      rw [hn] at hgn hr1 ⊢
      clear hn hRlen hx7 hz
      go_wp2
      go_ret
      exact ⟨rfl, hB7.out⟩
  · go_enter Try.func6, Try.ntmps6
    go_wp2
    go_ret
    exact ⟨rfl, Below.refl _ _⟩

set_option maxHeartbeats 1000000 in
theorem lawCommitRepairOthers {a : Option Addr} {len cap : Nat} {cs : List Int} (w : World) (h : RowIs .u8 w a len cap cs) :
    Calls Try.prog 7 #[.slice a len cap] w fun e w' => e = .returned (.bool true) ∧ Below w.heap.size w w' := by
  have h' := hid h
  clear h
  by_cases hbig : len ≤ 1048576
  · go_enter Try.func7, Try.ntmps7
    go_wp2_with fail
    refine (DrawCommitRepair_any w h'.out).mono ?_
    rintro e w1 ⟨v, u, xs, ys, rfl, ho1, ho2, _, hl1, hl2, hb1⟩
    have la_1 := hid (Lv.ofI ho1)
    have lb_1 := hid (Lv.ofI ho2)
    have hB1 := hid hb1
    clear ho1 ho2 hb1
    obtain ⟨A, c, rfl⟩ := la_1.out.rd
    obtain ⟨A', c', rfl⟩ := lb_1.out.rd
    obtain ⟨R, hR⟩ : ∃ R, repR xs ys = R := ⟨_, rfl⟩
    have hRl : R.length ≤ 14 := by rw [← hR]; have := repR_len xs ys; omega
    have hR' := hid hR
    clear hR
    go_wp2_with fail
    refine (CommitRepair_impl _ la_1.out.at_ lb_1.out.at_ (by omega) (by omega)).mono ?_
    rintro e w2 ⟨vg, rfl, og, b2⟩
    rw [hR'.out] at og
    have lg_2 := hid (Lv.ofI og)
    obtain ⟨Ag, cg, rfl⟩ := lg_2.out.rd
    have la_2 := hid (la_1.out.step b2)
    have lb_2 := hid (lb_1.out.step b2)
    have hB2 := hid (hB1.out.trans (b2.mono hB1.out.size))
    clear og b2 la_1 lb_1 hB1
    go_wp2_with fail
    refine (CommitRepair_spec _ la_2.out.at_ lb_2.out.at_ (by omega) (by omega)).mono ?_
    rintro e w3 ⟨vp, rfl, op, b3⟩
    rw [hR'.out] at op
    have lp_3 := hid (Lv.ofI op)
    obtain ⟨Ap, cp, rfl⟩ := lp_3.out.rd
    have la_3 := hid (la_2.out.step b3)
    have lb_3 := hid (lb_2.out.step b3)
    have lg_3 := hid (lg_2.out.step b3)
    have hB3 := hid (hB2.out.trans (b3.mono hB2.out.size))
    clear op b3 la_2 lb_2 lg_2 hB2
    cases hb : ldB xs ys with
    | false =>
      go_wp2_with fail
      refine (sameInts_any _ lg_3.out.at_ lp_3.out.at_ (by omega) (by omega)).mono ?_
      rw [sameB_refl]
      rintro e w4 ⟨rfl, hq⟩
      have lg_4 := hid (lg_3.out.quiet hq)
      have lp_4 := hid (lp_3.out.quiet hq)
      have hB4 := hid (hB3.out.trans (hq.below _))
      clear hq
      go_wp2_with fail
      refine (sameInts_any _ lg_4.out.at_ lp_4.out.at_ (by omega) (by omega)).mono ?_
      rw [sameB_refl]
      rintro e w5 ⟨rfl, hq⟩
      have hB5 := hid (hB4.out.trans (hq.below _))
      go_wp2
      go_ret
      exact ⟨rfl, hB5.out⟩
    | true =>
      obtain ⟨hv, hlv⟩ := ldB_both hb
      have hRe : R = rep xs ys := by rw [← hR'.out, repR_yes hb]
      have hrng := ldr_rng hlv
      have hlr : Hid (ldrR xs ys = ldr xs ys) := hid (ldrR_yes hb)
      have hRlen : Hid (R.length = xs.length) := hid (by rw [hRe, rep_len])
      have hget : Hid (∀ j, j < xs.length → R.getD j 0 = if (j : Int) ∈ ys then xs.getD (ldr xs ys).toNat 0 else xs.getD j 0) := hid (fun j hj => by rw [hRe]; exact rep_get hlv hj)
      have htw : Hid (repR R ys = R) := hid (by rw [hRe]; exact rep_twice hv hlv)
      have hldB : Hid (ldB R ys = true) := hid (by
        rw [hRe]
        exact ldB_yes (rep_valid hv hlv) (by rw [rep_len]; exact hlv))
      obtain ⟨hr0, hr1⟩ := hrng
      obtain ⟨g, hg⟩ := Int.eq_ofNat_of_zero_le hr0
      rw [hg] at hlr hget hr1
      clear hv hlv hRe hr0 hg
      go_wp2_with fail
      refine (sameInts_any _ lg_3.out.at_ lp_3.out.at_ (by omega) (by omega)).mono ?_
      rw [sameB_refl]
      rintro e w4 ⟨rfl, hq⟩
      have la_4 := hid (la_3.out.quiet hq)
      have lb_4 := hid (lb_3.out.quiet hq)
      have lg_4 := hid (lg_3.out.quiet hq)
      have hB4 := hid (hB3.out.trans (hq.below _))
      clear hq la_3 lb_3 lg_3 lp_3 hB3
      go_wp2_with fail
      refine (CommitLeader_impl _ la_4.out.at_ lb_4.out.at_ (by omega) (by omega)).mono ?_
      rw [hlr.out]
      rintro e w5 ⟨rfl, hb5⟩
      have la_5 := hid (la_4.out.step hb5)
      have lb_5 := hid (lb_4.out.step hb5)
      have lg_5 := hid (lg_4.out.step hb5)
      have hB5 := hid (hB4.out.trans (hb5.mono hB4.out.size))
      have hs5 := hB5.out.size
      clear hb5 la_4 lb_4 lg_4 hB4
      have hx5 := hid la_5.out.at_
      have hy5 := hid lb_5.out.at_
      have hR5 := hid lg_5.out.at_
      have hgn : g < xs.length := by omega
      rw [hRlen.out] at hR5 ⊢
      go_wp2
      go_loopw [10] (fun i wr => ∃ k : Nat, k ≤ xs.length ∧ i = .int .i64 k ∧ Qt w5 wr) (fun i _ => xs.length - (intOf i).toNat)
      case atStart => exact ⟨0, Nat.zero_le _, rfl, Qt.refl _⟩
      case round =>
        obtain ⟨k, hk, rfl, hq⟩ := hrel
        by_cases hlt : k < xs.length
        · obtain ⟨ad, x, rfl, hx, hcx⟩ := RdI.at' (hq.reads hx5.out) hlt
          obtain ⟨ad2, y, e2, hy, hcy⟩ := RdI.at' (hq.reads hx5.out) hgn
          injection e2 with e2
          subst e2
          obtain ⟨adR, z, rfl, hz, hcz⟩ := RdI.at' (hq.reads hR5.out) hlt
          have hyk := hid (hq.reads hy5.out)
          have hgk := hget.out k hlt
          rw [hz.out, Int.toNat_natCast, hy.out, hx.out] at hgk
          clear hz hx hy
          by_cases hmem : (k : Int) ∈ ys
          · have hh := hasB_of hmem
            have hcall' : Hid (∀ n, Calls Try.prog 17 #[.slice A' ys.length c', .int .i64 (k : Int)] (wr.drewN n) fun e w' => e = .returned (.bool true) ∧ wr.drewN n = w') := hid (fun n => by
              have := hasInt_any (c := c') (k : Int) (wr.drewN n) (Reads.drewN hyk.out n) (by omega)
              rw [hh] at this; exact this)
            clear hh
            rw [if_pos hmem] at hgk
            subst hgk
            have hne : (z != z) = false := by simp
            clear hmem
            go_wp2
            go_quiet ((go_at_call 17; with_reducible exact same_call (hcall'.out _)))
            go_wp2
            go_roundw
            case rel => exact ⟨k + 1, by omega, by go_num, hq.drewN _⟩
            case measure => simp [intOf]; omega
          · have hh := hasB_not hmem
            have hcall' : Hid (∀ n, Calls Try.prog 17 #[.slice A' ys.length c', .int .i64 (k : Int)] (wr.drewN n) fun e w' => e = .returned (.bool false) ∧ wr.drewN n = w') := hid (fun n => by
              have := hasInt_any (c := c') (k : Int) (wr.drewN n) (Reads.drewN hyk.out n) (by omega)
              rw [hh] at this; exact this)
            clear hh
            rw [if_neg hmem] at hgk
            subst hgk
            have hne : (z != z) = false := by simp
            clear hmem
            go_wp2
            go_quiet ((go_at_call 17; with_reducible exact same_call (hcall'.out _)))
            go_wp2
            go_roundw
            case rel => exact ⟨k + 1, by omega, by go_num, hq.drewN _⟩
            case measure => simp [intOf]; omega
        · have hs : wr.heap.size = w5.heap.size := hq.size
          have hRr : Hid (RdI wr wr.heap.size Ag xs.length R) := hid (by rw [hs]; exact hq.reads hR5.out)
          have hyr : Hid (RdI wr wr.heap.size A' ys.length ys) := hid (by rw [hs]; exact hq.reads hy5.out)
          have hB6 := hid (hB5.out.trans (hq.below _))
          go_wp2_with fail
          refine (CommitRepair_impl _ hRr.out hyr.out (by omega) (by omega)).mono ?_
          rintro e w7 ⟨vx, he, ox, b7⟩
          rw [htw.out] at ox
          rw [hldB.out] at he
          subst he
          have lx_7 := hid (Lv.ofI ox)
          obtain ⟨Ax, cx, rfl⟩ := lx_7.out.rd
          have hR7 := hid (Reads.below hRr.out b7)
          have hB7 := hid (hB6.out.trans (b7.mono hB6.out.size))
          clear ox b7
          go_wp2_with fail
          refine (sameInts_any _ lx_7.out.at_ hR7.out (by omega) (by omega)).mono ?_
          rw [sameB_refl]
          rintro e w8 ⟨rfl, hq8⟩
          have hB8 := hid (hB7.out.trans (hq8.below _))
          go_wp2
          go_ret
          exact ⟨rfl, hB8.out⟩
  · go_enter Try.func7, Try.ntmps7
    go_wp2
    go_ret
    exact ⟨rfl, Below.refl _ _⟩
end Go.Proofs.Ytgejohkdgcoeeaa
