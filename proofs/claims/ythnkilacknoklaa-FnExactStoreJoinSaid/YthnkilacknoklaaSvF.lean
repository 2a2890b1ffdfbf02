/-
  The walk of the exact law of StoreJoin: the law returns true and writes nothing that was there. No condition.
-/
import Derived.Test.YthnkilacknoklaaSvA
import Derived.Test.YthnkilacknoklaaOwnD
import Derived.Test.YthnkilacknoklaaSoF
import Derived.Test.YthnkilacknoklaaSpF
namespace Go.Proofs.Ythnkilacknoklaa
open Go.RowKit
set_option linter.unusedVariables false
set_option linter.unusedSimpArgs false

theorem LvD.rd {w : World} {lo hi n c : Nat} {A : Option Addr} {zss : List (List Int)} (h : LvD w lo hi (.slice A n c) zss) (_hl : zss.length = n) : RdL w w.heap.size A n zss := by
  obtain ⟨A', c', e, hr⟩ := h.ll.form
  injection e with e1 e2 e3
  rw [e1, e2]
  exact hr

theorem joinR_len15 (ps : List (List Int)) : (joinR ps).length ≤ 15 := by
  unfold joinR
  split
  · rw [tab_len]; exact Nat.le_refl _
  · exact Nat.zero_le _

set_option maxHeartbeats 2000000 in
theorem exStoreJoin {n c : Nat} {A : Option Addr} {zss : List (List Int)} (w : World) (hr : RdL w w.heap.size A n zss) (hn0 : n ≤ maxLen) (hi0 : ∀ i, i < n → (zss.getD i []).length ≤ maxLen) (hwf : WfP zss) :
    Calls Try.prog 9 #[.slice A n c] w fun e w' => e = .returned (.bool true) ∧ Below w.heap.size w w' := by
  unfold maxLen at hn0 hi0
  have hl' := hid hr.1
  have hr' := hid hr
  have hi' := hid hi0
  have hwf' := hid hwf
  clear hr hi0 hwf
  go_enter Try.func9, Try.ntmps9
  go_wp2_with fail
  refine (szIntSS_any w hr'.out hn0 hi'.out).mono ?_
  rintro e w_ ⟨r, rfl, hr0, hr1, hrn, rfl⟩
  by_cases hneg : 0 ≤ r
  · obtain ⟨hnb, hib⟩ := hrn hneg
    have hib' := hid hib
    have hsh : Hid (Short zss) := hid fun i hi => by have := hib i (by rw [← hl'.out]; exact hi); omega
    clear hrn hib hn0 hi'
    obtain ⟨R, hR⟩ : ∃ R, joinR zss = R := ⟨_, rfl⟩
    have hRl : R.length ≤ 15 := by rw [← hR]; have := joinR_len15 zss; omega
    have hR' := hid hR
    clear hR
    have hB0 := hid (Below.refl w.heap.size w)
    have hs0 := Nat.le_refl w.heap.size
    go_wp2_with fail
    refine (toIntSS_any _ (RdL.more (RdL.below hr'.out hB0.out) (by omega)) (by omega) hsh.out).mono ?_
    rintro e w1 ⟨Aa, ca, rfl, oa, b1⟩
    have da_1 : Hid (LvD _ _ _ _ _) := hid oa
    clear oa
    have b1 := hid b1
    have hB1 := hid (hB0.out.trans (b1.out.mono (by omega)))
    have hs1 := b1.out.size
    clear hB0
    go_wp2_with fail
    refine (StoreJoin_spec _ (da_1.out.rd hl'.out) (by omega) hsh.out).mono ?_
    rw [hR'.out]
    rintro e w2 ⟨vp, rfl, op, b2⟩
    have lp_2 := hid (Lv.ofI op)
    clear op
    obtain ⟨Ap, cp, rfl⟩ := lp_2.out.rd
    have b2 := hid b2
    have da_2 := hid (da_1.out.step b2.out)
    clear da_1
    have hB2 := hid (hB1.out.trans (b2.out.mono (by omega)))
    have hs2 := b2.out.size
    clear hB1
    clear da_2
    go_wp2_with fail
    refine (toIntSS_any _ (RdL.more (RdL.below hr'.out hB2.out) (by omega)) (by omega) hsh.out).mono ?_
    rintro e w3 ⟨Ax, cx, rfl, ox, b3⟩
    have dx_3 : Hid (LvD _ _ _ _ _) := hid ox
    clear ox
    have b3 := hid b3
    have lp_3 := hid (lp_2.out.step b3.out)
    clear lp_2
    have hB3 := hid (hB2.out.trans (b3.out.mono (by omega)))
    have hs3 := b3.out.size
    clear hB2
    go_wp2_with fail
    refine (StoreJoin_impl _ (dx_3.out.rd hl'.out) (by omega) hsh.out hwf'.out).mono ?_
    rw [hR'.out]
    rintro e w4 ⟨vg, rfl, og, b4⟩
    have lg_4 := hid (Lv.ofI og)
    clear og
    obtain ⟨Ag, cg, rfl⟩ := lg_4.out.rd
    have b4 := hid b4
    have lp_4 := hid (lp_3.out.step b4.out)
    clear lp_3
    have dx_4 := hid (dx_3.out.step b4.out)
    clear dx_3
    have hB4 := hid (hB3.out.trans (b4.out.mono (by omega)))
    have hs4 := b4.out.size
    clear hB3
    go_wp2_with fail
    refine (eqIntS_any _ lg_4.out.at_ lp_4.out.at_ (by omega) (by omega)).mono ?_
    rw [sameB_self]
    rintro e w5 ⟨rfl, q5⟩
    have q5 := hid q5
    have lp_5 := hid (lp_4.out.quiet q5.out)
    clear lp_4
    have lg_5 := hid (lg_4.out.quiet q5.out)
    clear lg_4
    have dx_5 := hid (dx_4.out.quiet q5.out)
    clear dx_4
    have hB5 := hid (hB4.out.trans (q5.out.below _))
    have hs5 : w4.heap.size ≤ w5.heap.size := Nat.le_of_eq q5.out.size.symm
    clear hB4
    go_wp2_with fail
    refine (toIntSS_any _ (RdL.more (RdL.below hr'.out hB5.out) (by omega)) (by omega) hsh.out).mono ?_
    rintro e w6 ⟨At, ct, rfl, ot, b6⟩
    have dt_6 : Hid (LvD _ _ _ _ _) := hid ot
    clear ot
    have b6 := hid b6
    have lp_6 := hid (lp_5.out.step b6.out)
    clear lp_5
    have lg_6 := hid (lg_5.out.step b6.out)
    clear lg_5
    have dx_6 := hid (dx_5.out.step b6.out)
    clear dx_5
    have hB6 := hid (hB5.out.trans (b6.out.mono (by omega)))
    have hs6 := b6.out.size
    clear hB5
    go_wp2_with fail
    refine (eqIntSS_self _ (dx_6.out.rd hl'.out) (dt_6.out.rd hl'.out) (by omega) hsh.out).mono ?_
    rintro e w7 ⟨rfl, q7⟩
    have q7 := hid q7
    have lp_7 := hid (lp_6.out.quiet q7.out)
    clear lp_6
    have lg_7 := hid (lg_6.out.quiet q7.out)
    clear lg_6
    have dx_7 := hid (dx_6.out.quiet q7.out)
    clear dx_6
    have dt_7 := hid (dt_6.out.quiet q7.out)
    clear dt_6
    have hB7 := hid (hB6.out.trans (q7.out.below _))
    have hs7 : w6.heap.size ≤ w7.heap.size := Nat.le_of_eq q7.out.size.symm
    clear hB6
    clear dt_7
    go_wp2_with fail
    refine (markIntSS_any _ dx_7.out hnb hib'.out).mono ?_
    rintro e w8 ⟨rk, rfl, hrk, y8⟩
    have y8 := hid y8
    have lp_8 := hid (lp_7.out.only y8.out (by omega))
    clear lp_7
    have lg_8 := hid (lg_7.out.only y8.out (by omega))
    clear lg_7
    clear dx_7
    have hB8 := hid (hB7.out.trans (y8.out.below (by omega)))
    have hs8 : w7.heap.size ≤ w8.heap.size := Nat.le_of_eq y8.out.size.symm
    clear hB7
    go_wp2_with fail
    refine (eqIntS_any _ lg_8.out.at_ lp_8.out.at_ (by omega) (by omega)).mono ?_
    rw [sameB_self]
    rintro e w9 ⟨rfl, q9⟩
    have q9 := hid q9
    have lp_9 := hid (lp_8.out.quiet q9.out)
    clear lp_8
    have lg_9 := hid (lg_8.out.quiet q9.out)
    clear lg_8
    have hB9 := hid (hB8.out.trans (q9.out.below _))
    have hs9 : w8.heap.size ≤ w9.heap.size := Nat.le_of_eq q9.out.size.symm
    clear hB8
    go_wp2_with fail
    refine (markIntS_lv _ _ lg_9.out (by omega) (by omega) (by omega)).mono ?_
    rintro e w10 ⟨rfl, og, g10, z10⟩
    have g10 := hid g10
    clear z10
    have lg_10 := hid og
    clear og
    have lp_10 := hid (lp_9.out.other lg_9.out g10.out (by omega))
    clear lp_9
    have hB10 := hid (hB9.out.trans (lg_9.out.base g10.out (by omega) (by omega)))
    have hs10 := g10.out.size
    clear hB9
    clear lg_9
    go_wp2_with fail
    refine (heldIntS_any _ _ lg_10.out.at_ (by omega) (by omega) (by omega)).mono ?_
    rintro e w_ ⟨rfl, rfl⟩
    go_wp2_with fail
    refine (toIntSS_any _ (RdL.more (RdL.below hr'.out hB10.out) (by omega)) (by omega) hsh.out).mono ?_
    rintro e w11 ⟨Au, cu, rfl, ou, b11⟩
    have du_11 : Hid (LvD _ _ _ _ _) := hid ou
    clear ou
    have b11 := hid b11
    have lp_11 := hid (lp_10.out.step b11.out)
    clear lp_10
    have lg_11 := hid (lg_10.out.step b11.out)
    clear lg_10
    have hB11 := hid (hB10.out.trans (b11.out.mono (by omega)))
    have hs11 := b11.out.size
    clear hB10
    go_wp2_with fail
    refine (StoreJoin_impl _ (du_11.out.rd hl'.out) (by omega) hsh.out hwf'.out).mono ?_
    rw [hR'.out]
    rintro e w12 ⟨vh, rfl, oh, b12⟩
    have lh_12 := hid (Lv.ofI oh)
    clear oh
    obtain ⟨Ah, ch, rfl⟩ := lh_12.out.rd
    have b12 := hid b12
    have lp_12 := hid (lp_11.out.step b12.out)
    clear lp_11
    have lg_12 := hid (lg_11.out.step b12.out)
    clear lg_11
    have du_12 := hid (du_11.out.step b12.out)
    clear du_11
    have hB12 := hid (hB11.out.trans (b12.out.mono (by omega)))
    have hs12 := b12.out.size
    clear hB11
    clear du_12
    go_wp2_with fail
    refine (eqIntS_any _ lh_12.out.at_ lp_12.out.at_ (by omega) (by omega)).mono ?_
    rw [sameB_self]
    rintro e w13 ⟨rfl, q13⟩
    have q13 := hid q13
    have lp_13 := hid (lp_12.out.quiet q13.out)
    clear lp_12
    have lg_13 := hid (lg_12.out.quiet q13.out)
    clear lg_12
    have lh_13 := hid (lh_12.out.quiet q13.out)
    clear lh_12
    have hB13 := hid (hB12.out.trans (q13.out.below _))
    have hs13 : w12.heap.size ≤ w13.heap.size := Nat.le_of_eq q13.out.size.symm
    clear hB12
    go_wp2_with fail
    refine (heldIntS_any _ _ lg_13.out.at_ (by omega) (by omega) (by omega)).mono ?_
    rintro e w_ ⟨rfl, rfl⟩
    go_wp2
    go_ret
    exact ⟨rfl, hB13.out⟩
  · clear hrn
    go_wp2
    go_ret
    exact ⟨rfl, Below.refl _ _⟩

end Go.Proofs.Ythnkilacknoklaa
