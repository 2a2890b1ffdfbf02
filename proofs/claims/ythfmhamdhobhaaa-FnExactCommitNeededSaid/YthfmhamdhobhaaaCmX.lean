/-
  The walks of the exact laws of CommitIndex, CommitLeader, CommitRepair, CommitNeeded: the law returns true and writes nothing that was there. No condition.
-/
import Derived.Test.YthfmhamdhobhaaaCmK
namespace Go.Proofs.Ythfmhamdhobhaaa
open Go.RowKit

theorem sameB_self (zs : List Int) : sameB zs zs = true := by simp [sameB]

set_option maxHeartbeats 1000000 in
theorem exCommitIndex {n c : Nat} {A : Option Addr} {zs : List Int} (w : World) (hr : RdI w w.heap.size A n zs) (hm : n ≤ maxLen) :
    Calls Try.prog 3 #[.slice A n c] w fun e w' => e = .returned (.bool true) ∧ Below w.heap.size w w' := by
  unfold maxLen at hm
  have hl' := hid hr.len
  have hr' := hid hr
  clear hr
  by_cases hbig : n ≤ 1048576
  · go_enter Try.func3, Try.ntmps3
    have hn : zs.length < 1099511627776 := by rw [hl'.out]; omega
    go_wp2_with fail
    refine (toIntS_any _ hr'.out (by omega)).mono ?_
    rintro e w1 ⟨v1, rfl, ho1, hb1⟩
    obtain ⟨A1, c1, rfl, hr1⟩ := ho1.rd (Nat.le_refl _)
    go_wp2_with fail
    refine (CommitIndex_spec _ hr1 hn).mono ?_
    rintro e w2 ⟨r1, rfl, hc1, rfl⟩
    go_wp2_with fail
    refine (toIntS_any _ ((hr'.out.below hb1).more hb1.size) (by omega)).mono ?_
    rintro e w3 ⟨v3, rfl, ho3, hb3⟩
    obtain ⟨A3, c3, rfl, hr3⟩ := ho3.rd (Nat.le_refl _)
    have hb3' := hb1.trans (hb3.mono hb1.size)
    go_wp2_with fail
    refine (CommitIndex_impl _ hr3 (Nat.le_refl _) hn).mono ?_
    rintro e w4 ⟨r2, rfl, hc2, hb4⟩
    obtain rfl : r1 = r2 := hc1.uniq hc2
    have hb4' := hb3'.trans (hb4.mono hb3'.size)
    have hbb : (r1 != r1) = false := by simp
    go_wp2_with fail
    refine (toIntS_any _ ((hr'.out.below hb4').more hb4'.size) (by omega)).mono ?_
    rintro e w5 ⟨v5, rfl, ho5, hb5⟩
    obtain ⟨A5, c5, rfl, hr5⟩ := ho5.rd (Nat.le_refl _)
    have hb5' := hb4'.trans (hb5.mono hb4'.size)
    go_wp2_with fail
    refine (eqIntS_any _ (((hr3.below hb4).more hb4.size).below hb5) hr5 hn hn).mono ?_
    rintro e w6 ⟨rfl, hq6⟩
    have hsm : sameB zs zs = true := by simp [sameB]
    go_wp2
    go_ret
    exact ⟨rfl, hb5'.trans (hq6.below _)⟩
  · go_enter Try.func3, Try.ntmps3
    go_wp2
    go_ret
    exact ⟨rfl, Below.refl _ _⟩

set_option maxHeartbeats 1000000 in
theorem exCommitNeeded {n c : Nat} {A : Option Addr} {zs : List Int} (x : Int) (w : World) (hr : RdI w w.heap.size A n zs) (hm : n ≤ maxLen) :
    Calls Try.prog 6 #[.slice A n c, .int .i64 x] w fun e w' => e = .returned (.bool true) ∧ Below w.heap.size w w' := by
  unfold maxLen at hm
  have hl' := hid hr.len
  have hr' := hid hr
  clear hr
  by_cases hbig : n ≤ 1048576
  · go_enter Try.func6, Try.ntmps6
    have hn : zs.length < 1099511627776 := by rw [hl'.out]; omega
    go_wp2_with fail
    refine (toIntS_any _ hr'.out (by omega)).mono ?_
    rintro e w1 ⟨v1, rfl, ho1, hb1⟩
    obtain ⟨A1, c1, rfl, hr1⟩ := ho1.rd (Nat.le_refl _)
    go_wp2_with fail
    refine (CommitNeeded_spec x _ hr1 hn).mono ?_
    rintro e w2 ⟨rfl, rfl⟩
    go_wp2_with fail
    refine (toIntS_any _ ((hr'.out.below hb1).more hb1.size) (by omega)).mono ?_
    rintro e w3 ⟨v3, rfl, ho3, hb3⟩
    obtain ⟨A3, c3, rfl, hr3⟩ := ho3.rd (Nat.le_refl _)
    have hb3' := hb1.trans (hb3.mono hb1.size)
    go_wp2_with fail
    refine (CommitNeeded_impl x _ hr3 (Nat.le_refl _) hn).mono ?_
    rintro e w4 ⟨rfl, hb4⟩
    have hb4' := hb3'.trans (hb4.mono hb3'.size)
    have hbb : (needR zs x != needR zs x) = false := by simp
    go_wp2_with fail
    refine (toIntS_any _ ((hr'.out.below hb4').more hb4'.size) (by omega)).mono ?_
    rintro e w5 ⟨v5, rfl, ho5, hb5⟩
    obtain ⟨A5, c5, rfl, hr5⟩ := ho5.rd (Nat.le_refl _)
    have hb5' := hb4'.trans (hb5.mono hb4'.size)
    go_wp2_with fail
    refine (eqIntS_any _ (((hr3.below hb4).more hb4.size).below hb5) hr5 hn hn).mono ?_
    rintro e w6 ⟨rfl, hq6⟩
    have hsm : sameB zs zs = true := by simp [sameB]
    go_wp2
    go_ret
    exact ⟨rfl, hb5'.trans (hq6.below _)⟩
  · go_enter Try.func6, Try.ntmps6
    go_wp2
    go_ret
    exact ⟨rfl, Below.refl _ _⟩

set_option maxHeartbeats 2000000 in
theorem exCommitRepair {n m c d : Nat} {A A' : Option Addr} {xs ys : List Int} (w : World) (hx : RdI w w.heap.size A n xs) (hy : RdI w w.heap.size A' m ys) (hn0 : n ≤ maxLen) (hm0 : m ≤ maxLen) :
    Calls Try.prog 5 #[.slice A n c, .slice A' m d] w fun e w' => e = .returned (.bool true) ∧ Below w.heap.size w w' := by
  unfold maxLen at hn0 hm0
  have hlx := hid hx.len
  have hly := hid hy.len
  have hx' := hid hx
  have hy' := hid hy
  clear hx hy
  by_cases hbig : n ≤ 1048576
  · by_cases hbig2 : m ≤ 1048576
    · go_enter Try.func5, Try.ntmps5
      obtain ⟨R, hR⟩ : ∃ R, repR xs ys = R := ⟨_, rfl⟩
      have hR' := hid hR
      clear hR
      have hxl : xs.length < 1099511627776 := by rw [hlx.out]; omega
      have hyl : ys.length < 1099511627776 := by rw [hly.out]; omega
      have hRl : R.length < 1099511627776 := by rw [← hR'.out]; have := repR_len xs ys; omega
      have hB0 := hid (Below.refl w.heap.size w)
      have hs0 := Nat.le_refl w.heap.size
      go_wp2_with fail
      refine (toIntS_any _ (Reads.more (Reads.below hx'.out hB0.out) (by omega)) (by omega)).mono ?_
      rintro e w1 ⟨va, rfl, oa, b1⟩
      have la_1 := hid (Lv.of oa)
      clear oa
      obtain ⟨Aa, ca, rfl⟩ := la_1.out.rd
      have b1 := hid b1
      have hB1 := hid (hB0.out.trans (b1.out.mono (by omega)))
      have hs1 := b1.out.size
      clear hB0
      go_wp2_with fail
      refine (toIntS_any _ (Reads.more (Reads.below hy'.out hB1.out) (by omega)) (by omega)).mono ?_
      rintro e w2 ⟨vb, rfl, ob, b2⟩
      have lb_2 := hid (Lv.of ob)
      clear ob
      obtain ⟨Ab, cb, rfl⟩ := lb_2.out.rd
      have b2 := hid b2
      have la_2 := hid (la_1.out.step b2.out)
      clear la_1
      have hB2 := hid (hB1.out.trans (b2.out.mono (by omega)))
      have hs2 := b2.out.size
      clear hB1
      go_wp2_with fail
      refine (CommitRepair_spec _ la_2.out.at_ lb_2.out.at_ (by omega) (by omega)).mono ?_
      rintro e w3 ⟨vp, rfl, op, b3⟩
      rw [hR'.out] at op
      have lp_3 := hid (Lv.ofI op)
      clear op
      obtain ⟨Ap, cp, rfl⟩ := lp_3.out.rd
      have b3 := hid b3
      have la_3 := hid (la_2.out.step b3.out)
      clear la_2
      have lb_3 := hid (lb_2.out.step b3.out)
      clear lb_2
      have hB3 := hid (hB2.out.trans (b3.out.mono (by omega)))
      have hs3 := b3.out.size
      clear hB2
      clear la_3
      clear lb_3
      go_wp2_with fail
      refine (toIntS_any _ (Reads.more (Reads.below hx'.out hB3.out) (by omega)) (by omega)).mono ?_
      rintro e w4 ⟨vx, rfl, ox, b4⟩
      have lx_4 := hid (Lv.of ox)
      clear ox
      obtain ⟨Ax, cx, rfl⟩ := lx_4.out.rd
      have b4 := hid b4
      have lp_4 := hid (lp_3.out.step b4.out)
      clear lp_3
      have hB4 := hid (hB3.out.trans (b4.out.mono (by omega)))
      have hs4 := b4.out.size
      clear hB3
      go_wp2_with fail
      refine (toIntS_any _ (Reads.more (Reads.below hy'.out hB4.out) (by omega)) (by omega)).mono ?_
      rintro e w5 ⟨vy, rfl, oy, b5⟩
      have ly_5 := hid (Lv.of oy)
      clear oy
      obtain ⟨Ay, cy, rfl⟩ := ly_5.out.rd
      have b5 := hid b5
      have lp_5 := hid (lp_4.out.step b5.out)
      clear lp_4
      have lx_5 := hid (lx_4.out.step b5.out)
      clear lx_4
      have hB5 := hid (hB4.out.trans (b5.out.mono (by omega)))
      have hs5 := b5.out.size
      clear hB4
      go_wp2_with fail
      refine (CommitRepair_impl _ lx_5.out.at_ ly_5.out.at_ (by omega) (by omega)).mono ?_
      rintro e w6 ⟨vg, rfl, og, b6⟩
      rw [hR'.out] at og
      have lg_6 := hid (Lv.ofI og)
      clear og
      obtain ⟨Ag, cg, rfl⟩ := lg_6.out.rd
      have b6 := hid b6
      have lp_6 := hid (lp_5.out.step b6.out)
      clear lp_5
      have lx_6 := hid (lx_5.out.step b6.out)
      clear lx_5
      have ly_6 := hid (ly_5.out.step b6.out)
      clear ly_5
      have hB6 := hid (hB5.out.trans (b6.out.mono (by omega)))
      have hs6 := b6.out.size
      clear hB5
      go_wp2_with fail
      refine (eqIntS_any _ lg_6.out.at_ lp_6.out.at_ (by omega) (by omega)).mono ?_
      rw [sameB_self]
      rintro e w7 ⟨rfl, q7⟩
      have q7 := hid q7
      have lp_7 := hid (lp_6.out.quiet q7.out)
      clear lp_6
      have lx_7 := hid (lx_6.out.quiet q7.out)
      clear lx_6
      have ly_7 := hid (ly_6.out.quiet q7.out)
      clear ly_6
      have lg_7 := hid (lg_6.out.quiet q7.out)
      clear lg_6
      have hB7 := hid (hB6.out.trans (q7.out.below _))
      have hs7 : w6.heap.size ≤ w7.heap.size := Nat.le_of_eq q7.out.size.symm
      clear hB6
      go_wp2_with fail
      refine (toIntS_any _ (Reads.more (Reads.below hx'.out hB7.out) (by omega)) (by omega)).mono ?_
      rintro e w8 ⟨vt, rfl, ot, b8⟩
      have lt_8 := hid (Lv.of ot)
      clear ot
      obtain ⟨At, ct, rfl⟩ := lt_8.out.rd
      have b8 := hid b8
      have lp_8 := hid (lp_7.out.step b8.out)
      clear lp_7
      have lx_8 := hid (lx_7.out.step b8.out)
      clear lx_7
      have ly_8 := hid (ly_7.out.step b8.out)
      clear ly_7
      have lg_8 := hid (lg_7.out.step b8.out)
      clear lg_7
      have hB8 := hid (hB7.out.trans (b8.out.mono (by omega)))
      have hs8 := b8.out.size
      clear hB7
      go_wp2_with fail
      refine (eqIntS_any _ lx_8.out.at_ lt_8.out.at_ (by omega) (by omega)).mono ?_
      rw [sameB_self]
      rintro e w9 ⟨rfl, q9⟩
      have q9 := hid q9
      have lp_9 := hid (lp_8.out.quiet q9.out)
      clear lp_8
      have lx_9 := hid (lx_8.out.quiet q9.out)
      clear lx_8
      have ly_9 := hid (ly_8.out.quiet q9.out)
      clear ly_8
      have lg_9 := hid (lg_8.out.quiet q9.out)
      clear lg_8
      have lt_9 := hid (lt_8.out.quiet q9.out)
      clear lt_8
      have hB9 := hid (hB8.out.trans (q9.out.below _))
      have hs9 : w8.heap.size ≤ w9.heap.size := Nat.le_of_eq q9.out.size.symm
      clear hB8
      clear lt_9
      go_wp2_with fail
      refine (toIntS_any _ (Reads.more (Reads.below hy'.out hB9.out) (by omega)) (by omega)).mono ?_
      rintro e w10 ⟨vt2, rfl, ot2, b10⟩
      have lt2_10 := hid (Lv.of ot2)
      clear ot2
      obtain ⟨At2, ct2, rfl⟩ := lt2_10.out.rd
      have b10 := hid b10
      have lp_10 := hid (lp_9.out.step b10.out)
      clear lp_9
      have lx_10 := hid (lx_9.out.step b10.out)
      clear lx_9
      have ly_10 := hid (ly_9.out.step b10.out)
      clear ly_9
      have lg_10 := hid (lg_9.out.step b10.out)
      clear lg_9
      have hB10 := hid (hB9.out.trans (b10.out.mono (by omega)))
      have hs10 := b10.out.size
      clear hB9
      go_wp2_with fail
      refine (eqIntS_any _ ly_10.out.at_ lt2_10.out.at_ (by omega) (by omega)).mono ?_
      rw [sameB_self]
      rintro e w11 ⟨rfl, q11⟩
      have q11 := hid q11
      have lp_11 := hid (lp_10.out.quiet q11.out)
      clear lp_10
      have lx_11 := hid (lx_10.out.quiet q11.out)
      clear lx_10
      have ly_11 := hid (ly_10.out.quiet q11.out)
      clear ly_10
      have lg_11 := hid (lg_10.out.quiet q11.out)
      clear lg_10
      have lt2_11 := hid (lt2_10.out.quiet q11.out)
      clear lt2_10
      have hB11 := hid (hB10.out.trans (q11.out.below _))
      have hs11 : w10.heap.size ≤ w11.heap.size := Nat.le_of_eq q11.out.size.symm
      clear hB10
      clear lt2_11
      go_wp2_with fail
      refine (markIntS_lv _ _ lx_11.out (by omega) (by omega) (by omega)).mono ?_
      rintro e w12 ⟨rfl, ox, g12, z12⟩
      have g12 := hid g12
      clear z12
      have lx_12 := hid ox
      clear ox
      have lp_12 := hid (lp_11.out.other lx_11.out g12.out (by omega))
      clear lp_11
      have ly_12 := hid (ly_11.out.other lx_11.out g12.out (by omega))
      clear ly_11
      have lg_12 := hid (lg_11.out.other lx_11.out g12.out (by omega))
      clear lg_11
      have hB12 := hid (hB11.out.trans (lx_11.out.base g12.out (by omega) (by omega)))
      have hs12 := g12.out.size
      clear hB11
      clear lx_11
      go_wp2_with fail
      refine (markIntS_lv _ _ ly_12.out (by omega) (by omega) (by omega)).mono ?_
      rintro e w13 ⟨rfl, oy, g13, z13⟩
      have g13 := hid g13
      clear z13
      have ly_13 := hid oy
      clear oy
      have lp_13 := hid (lp_12.out.other ly_12.out g13.out (by omega))
      clear lp_12
      have lx_13 := hid (lx_12.out.other ly_12.out g13.out (by omega))
      clear lx_12
      have lg_13 := hid (lg_12.out.other ly_12.out g13.out (by omega))
      clear lg_12
      have hB13 := hid (hB12.out.trans (ly_12.out.base g13.out (by omega) (by omega)))
      have hs13 := g13.out.size
      clear hB12
      clear ly_12
      go_wp2_with fail
      refine (eqIntS_any _ lg_13.out.at_ lp_13.out.at_ (by omega) (by omega)).mono ?_
      rw [sameB_self]
      rintro e w14 ⟨rfl, q14⟩
      have q14 := hid q14
      have lp_14 := hid (lp_13.out.quiet q14.out)
      clear lp_13
      have lx_14 := hid (lx_13.out.quiet q14.out)
      clear lx_13
      have ly_14 := hid (ly_13.out.quiet q14.out)
      clear ly_13
      have lg_14 := hid (lg_13.out.quiet q14.out)
      clear lg_13
      have hB14 := hid (hB13.out.trans (q14.out.below _))
      have hs14 : w13.heap.size ≤ w14.heap.size := Nat.le_of_eq q14.out.size.symm
      clear hB13
      go_wp2_with fail
      refine (markIntS_lv _ _ lg_14.out (by omega) (by omega) (by omega)).mono ?_
      rintro e w15 ⟨rfl, og, g15, z15⟩
      have g15 := hid g15
      clear z15
      have lg_15 := hid og
      clear og
      have lp_15 := hid (lp_14.out.other lg_14.out g15.out (by omega))
      clear lp_14
      have lx_15 := hid (lx_14.out.other lg_14.out g15.out (by omega))
      clear lx_14
      have ly_15 := hid (ly_14.out.other lg_14.out g15.out (by omega))
      clear ly_14
      have hB15 := hid (hB14.out.trans (lg_14.out.base g15.out (by omega) (by omega)))
      have hs15 := g15.out.size
      clear hB14
      clear lg_14
      go_wp2_with fail
      refine (heldIntS_any _ _ lg_15.out.at_ (by omega) (by omega) (by omega)).mono ?_
      rintro e w_ ⟨rfl, rfl⟩
      clear lx_15
      clear ly_15
      go_wp2_with fail
      refine (toIntS_any _ (Reads.more (Reads.below hx'.out hB15.out) (by omega)) (by omega)).mono ?_
      rintro e w16 ⟨vu, rfl, ou, b16⟩
      have lu_16 := hid (Lv.of ou)
      clear ou
      obtain ⟨Au, cu, rfl⟩ := lu_16.out.rd
      have b16 := hid b16
      have lp_16 := hid (lp_15.out.step b16.out)
      clear lp_15
      have lg_16 := hid (lg_15.out.step b16.out)
      clear lg_15
      have hB16 := hid (hB15.out.trans (b16.out.mono (by omega)))
      have hs16 := b16.out.size
      clear hB15
      go_wp2_with fail
      refine (toIntS_any _ (Reads.more (Reads.below hy'.out hB16.out) (by omega)) (by omega)).mono ?_
      rintro e w17 ⟨vu2, rfl, ou2, b17⟩
      have lu2_17 := hid (Lv.of ou2)
      clear ou2
      obtain ⟨Au2, cu2, rfl⟩ := lu2_17.out.rd
      have b17 := hid b17
      have lp_17 := hid (lp_16.out.step b17.out)
      clear lp_16
      have lg_17 := hid (lg_16.out.step b17.out)
      clear lg_16
      have lu_17 := hid (lu_16.out.step b17.out)
      clear lu_16
      have hB17 := hid (hB16.out.trans (b17.out.mono (by omega)))
      have hs17 := b17.out.size
      clear hB16
      go_wp2_with fail
      refine (CommitRepair_impl _ lu_17.out.at_ lu2_17.out.at_ (by omega) (by omega)).mono ?_
      rintro e w18 ⟨vh, rfl, oh, b18⟩
      rw [hR'.out] at oh
      have lh_18 := hid (Lv.ofI oh)
      clear oh
      obtain ⟨Ah, ch, rfl⟩ := lh_18.out.rd
      have b18 := hid b18
      have lp_18 := hid (lp_17.out.step b18.out)
      clear lp_17
      have lg_18 := hid (lg_17.out.step b18.out)
      clear lg_17
      have lu_18 := hid (lu_17.out.step b18.out)
      clear lu_17
      have lu2_18 := hid (lu2_17.out.step b18.out)
      clear lu2_17
      have hB18 := hid (hB17.out.trans (b18.out.mono (by omega)))
      have hs18 := b18.out.size
      clear hB17
      go_wp2_with fail
      refine (eqIntS_any _ lh_18.out.at_ lp_18.out.at_ (by omega) (by omega)).mono ?_
      rw [sameB_self]
      rintro e w19 ⟨rfl, q19⟩
      have q19 := hid q19
      have lp_19 := hid (lp_18.out.quiet q19.out)
      clear lp_18
      have lg_19 := hid (lg_18.out.quiet q19.out)
      clear lg_18
      have lu_19 := hid (lu_18.out.quiet q19.out)
      clear lu_18
      have lu2_19 := hid (lu2_18.out.quiet q19.out)
      clear lu2_18
      have lh_19 := hid (lh_18.out.quiet q19.out)
      clear lh_18
      have hB19 := hid (hB18.out.trans (q19.out.below _))
      have hs19 : w18.heap.size ≤ w19.heap.size := Nat.le_of_eq q19.out.size.symm
      clear hB18
      go_wp2_with fail
      refine (heldIntS_any _ _ lg_19.out.at_ (by omega) (by omega) (by omega)).mono ?_
      rintro e w_ ⟨rfl, rfl⟩
      go_wp2
      go_ret
      exact ⟨rfl, hB19.out⟩
    · go_enter Try.func5, Try.ntmps5
      go_wp2
      go_ret
      exact ⟨rfl, Below.refl _ _⟩
  · go_enter Try.func5, Try.ntmps5
    go_wp2
    go_ret
    exact ⟨rfl, Below.refl _ _⟩

set_option maxHeartbeats 2000000 in
theorem exCommitLeader {n m c d : Nat} {A A' : Option Addr} {xs ys : List Int} (w : World) (hx : RdI w w.heap.size A n xs) (hy : RdI w w.heap.size A' m ys) (hn0 : n ≤ maxLen) (hm0 : m ≤ maxLen) :
    Calls Try.prog 4 #[.slice A n c, .slice A' m d] w fun e w' => e = .returned (.bool true) ∧ Below w.heap.size w w' := by
  unfold maxLen at hn0 hm0
  have hlx := hid hx.len
  have hly := hid hy.len
  have hx' := hid hx
  have hy' := hid hy
  clear hx hy
  by_cases hbig : n ≤ 1048576
  · by_cases hbig2 : m ≤ 1048576
    · go_enter Try.func4, Try.ntmps4
      have hxl : xs.length < 1099511627776 := by rw [hlx.out]; omega
      have hyl : ys.length < 1099511627776 := by rw [hly.out]; omega
      have hB0 := hid (Below.refl w.heap.size w)
      have hs0 := Nat.le_refl w.heap.size
      go_wp2_with fail
      refine (toIntS_any _ (Reads.more (Reads.below hx'.out hB0.out) (by omega)) (by omega)).mono ?_
      rintro e w1 ⟨va, rfl, oa, b1⟩
      have la_1 := hid (Lv.of oa)
      clear oa
      obtain ⟨Aa, ca, rfl⟩ := la_1.out.rd
      have hB1 := hid (hB0.out.trans (b1.mono (by omega)))
      have hs1 := b1.size
      clear hB0 b1
      go_wp2_with fail
      refine (toIntS_any _ (Reads.more (Reads.below hy'.out hB1.out) (by omega)) (by omega)).mono ?_
      rintro e w2 ⟨vb, rfl, ob, b2⟩
      have lb_2 := hid (Lv.of ob)
      clear ob
      obtain ⟨Ab, cb, rfl⟩ := lb_2.out.rd
      have la_2 := hid (la_1.out.step b2)
      have hB2 := hid (hB1.out.trans (b2.mono (by omega)))
      have hs2 := b2.size
      clear hB1 b2 la_1
      go_wp2_with fail
      refine (CommitLeader_spec _ la_2.out.at_ lb_2.out.at_ (by omega) (by omega)).mono ?_
      rintro e w3 ⟨rfl, q3⟩
      have hB3 := hid (hB2.out.trans (q3.below _))
      have hs3 : w2.heap.size ≤ w3.heap.size := Nat.le_of_eq q3.size.symm
      clear hB2 q3 la_2 lb_2
      go_wp2_with fail
      refine (toIntS_any _ (Reads.more (Reads.below hx'.out hB3.out) (by omega)) (by omega)).mono ?_
      rintro e w4 ⟨vx, rfl, ox, b4⟩
      have lx_4 := hid (Lv.of ox)
      clear ox
      obtain ⟨Ax, cx, rfl⟩ := lx_4.out.rd
      have hB4 := hid (hB3.out.trans (b4.mono (by omega)))
      have hs4 := b4.size
      clear hB3 b4
      go_wp2_with fail
      refine (toIntS_any _ (Reads.more (Reads.below hy'.out hB4.out) (by omega)) (by omega)).mono ?_
      rintro e w5 ⟨vy, rfl, oy, b5⟩
      have ly_5 := hid (Lv.of oy)
      clear oy
      obtain ⟨Ay, cy, rfl⟩ := ly_5.out.rd
      have lx_5 := hid (lx_4.out.step b5)
      have hB5 := hid (hB4.out.trans (b5.mono (by omega)))
      have hs5 := b5.size
      clear hB4 b5 lx_4
      go_wp2_with fail
      refine (CommitLeader_impl _ lx_5.out.at_ ly_5.out.at_ (by omega) (by omega)).mono ?_
      rintro e w6 ⟨rfl, b6⟩
      have lx_6 := hid (lx_5.out.step b6)
      have ly_6 := hid (ly_5.out.step b6)
      have hB6 := hid (hB5.out.trans (b6.mono (by omega)))
      have hs6 := b6.size
      clear hB5 b6 lx_5 ly_5
      have hbb : (ldrR xs ys != ldrR xs ys) = false := by simp
      go_wp2_with fail
      refine (toIntS_any _ (Reads.more (Reads.below hx'.out hB6.out) (by omega)) (by omega)).mono ?_
      rintro e w7 ⟨vt, rfl, ot, b7⟩
      have lt_7 := hid (Lv.of ot)
      clear ot
      obtain ⟨At, ct, rfl⟩ := lt_7.out.rd
      have lx_7 := hid (lx_6.out.step b7)
      have ly_7 := hid (ly_6.out.step b7)
      have hB7 := hid (hB6.out.trans (b7.mono (by omega)))
      have hs7 := b7.size
      clear hB6 b7 lx_6 ly_6
      go_wp2_with fail
      refine (eqIntS_any _ lx_7.out.at_ lt_7.out.at_ (by omega) (by omega)).mono ?_
      rw [sameB_self]
      rintro e w8 ⟨rfl, q8⟩
      have ly_8 := hid (ly_7.out.quiet q8)
      have hB8 := hid (hB7.out.trans (q8.below _))
      have hs8 : w7.heap.size ≤ w8.heap.size := Nat.le_of_eq q8.size.symm
      clear hB7 q8 lx_7 ly_7 lt_7
      go_wp2_with fail
      refine (toIntS_any _ (Reads.more (Reads.below hy'.out hB8.out) (by omega)) (by omega)).mono ?_
      rintro e w9 ⟨vt2, rfl, ot2, b9⟩
      have lt_9 := hid (Lv.of ot2)
      clear ot2
      obtain ⟨At2, ct2, rfl⟩ := lt_9.out.rd
      have ly_9 := hid (ly_8.out.step b9)
      have hB9 := hid (hB8.out.trans (b9.mono (by omega)))
      have hs9 := b9.size
      clear hB8 b9 ly_8
      go_wp2_with fail
      refine (eqIntS_any _ ly_9.out.at_ lt_9.out.at_ (by omega) (by omega)).mono ?_
      rw [sameB_self]
      rintro e w10 ⟨rfl, q10⟩
      have hB10 := hid (hB9.out.trans (q10.below _))
      go_wp2
      go_ret
      exact ⟨rfl, hB10.out⟩
    · go_enter Try.func4, Try.ntmps4
      go_wp2
      go_ret
      exact ⟨rfl, Below.refl _ _⟩
  · go_enter Try.func4, Try.ntmps4
    go_wp2
    go_ret
    exact ⟨rfl, Below.refl _ _⟩

end Go.Proofs.Ythfmhamdhobhaaa
