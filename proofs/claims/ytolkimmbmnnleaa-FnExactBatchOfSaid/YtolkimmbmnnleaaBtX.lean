/-
  The walks of the exact laws of BatchesValid, BatchCut, BatchFits, BatchOf: the law returns true and writes nothing that was there. No condition.
-/
import Derived.Test.YtolkimmbmnnleaaBtJ
namespace Go.Proofs.Ytolkimmbmnnleaa
open Go.RowKit

theorem sameB_self (zs : List Int) : sameB zs zs = true := by simp [sameB]

theorem Lv.cap {w : World} {lo hi n c : Nat} {A : Option Addr} {zs : List Int} (h : Lv w lo hi (.slice A n c) zs) : n ≤ c ∧ c ≤ maxLen := by
  have hl : zs.length = n := h.at_.len
  rcases h.1.1.2 with ⟨e, h0⟩ | ⟨g, cap, cur, e, _, _, h1, h2, _⟩
  · injection e with _ e2 e3
    subst e2; subst e3
    exact ⟨Nat.le_refl _, Nat.zero_le _⟩
  · injection e with _ e2 e3
    subst e3
    exact ⟨by omega, h2⟩

set_option maxHeartbeats 2000000 in
theorem exBatchesValid {nx cx0 : Nat} {Ax0 : Option Addr} {xs : List Int} (B M : Int) (w : World) (hx : RdI w w.heap.size Ax0 nx xs) (hmx : nx ≤ maxLen) :
    Calls Try.prog 3 #[.slice Ax0 nx cx0, .int .i64 B, .int .i64 M] w fun e w' => e = .returned (.bool true) ∧ Below w.heap.size w w' := by
  unfold maxLen at hmx
  have hlx := hid hx.len
  have hx' := hid hx
  clear hx
  by_cases hbigx : nx ≤ 1048576
  · skip
    have hLx : xs.length < 1099511627776 := by rw [hlx.out]; omega
    obtain ⟨R, hR⟩ : ∃ R, bvB xs B M = R := ⟨_, rfl⟩
    have hR' := hid hR
    clear hR
    have hbb : (R != R) = false := by simp
    go_enter Try.func3, Try.ntmps3
    have hB0 := hid (Below.refl w.heap.size w)
    have hs0 := Nat.le_refl w.heap.size
    go_wp2_with fail
    refine (toIntS_any _ (Reads.more (Reads.below hx'.out hB0.out) (by omega)) (by omega)).mono ?_
    rintro e w1 ⟨va, rfl, oa, b1⟩
    have la_1 := hid (Lv.of oa)
    clear oa
    obtain ⟨Aa, ca, rfl⟩ := la_1.out.rd
    have b1 := hid b1
    have hB1 := hid (hB0.out.trans (b1.out.mono (by omega)))
    have hs1 := b1.out.size
    clear hB0
    go_wp2_with fail
    refine (BatchesValid_spec _ _ _ la_1.out.at_ (by omega)).mono ?_
    rw [hR'.out]
    rintro e w_ ⟨rfl, rfl⟩
    clear la_1
    go_wp2_with fail
    refine (toIntS_any _ (Reads.more (Reads.below hx'.out hB1.out) (by omega)) (by omega)).mono ?_
    rintro e w2 ⟨vx, rfl, ox, b2⟩
    have lx_2 := hid (Lv.of ox)
    clear ox
    obtain ⟨Ax, cx, rfl⟩ := lx_2.out.rd
    have b2 := hid b2
    have hB2 := hid (hB1.out.trans (b2.out.mono (by omega)))
    have hs2 := b2.out.size
    clear hB1
    go_wp2_with fail
    refine (BatchesValid_impl _ _ _ lx_2.out.at_ (by omega)).mono ?_
    rw [hR'.out]
    rintro e w_ ⟨rfl, rfl⟩
    go_wp2_with fail
    refine (toIntS_any _ (Reads.more (Reads.below hx'.out hB2.out) (by omega)) (by omega)).mono ?_
    rintro e w3 ⟨vt, rfl, ot, b3⟩
    have lt_3 := hid (Lv.of ot)
    clear ot
    obtain ⟨At, ct, rfl⟩ := lt_3.out.rd
    have b3 := hid b3
    have lx_3 := hid (lx_2.out.step b3.out)
    clear lx_2
    have hB3 := hid (hB2.out.trans (b3.out.mono (by omega)))
    have hs3 := b3.out.size
    clear hB2
    go_wp2_with fail
    refine (eqIntS_any _ lx_3.out.at_ lt_3.out.at_ (by omega) (by omega)).mono ?_
    rw [sameB_self]
    rintro e w4 ⟨rfl, q4⟩
    have q4 := hid q4
    have lx_4 := hid (lx_3.out.quiet q4.out)
    clear lx_3
    have lt_4 := hid (lt_3.out.quiet q4.out)
    clear lt_3
    have hB4 := hid (hB3.out.trans (q4.out.below _))
    have hs4 : w3.heap.size ≤ w4.heap.size := Nat.le_of_eq q4.out.size.symm
    clear hB3
    go_wp2
    go_ret
    exact ⟨rfl, hB4.out⟩
  · go_enter Try.func3, Try.ntmps3
    go_wp2
    go_ret
    exact ⟨rfl, Below.refl _ _⟩

set_option maxHeartbeats 2000000 in
theorem exBatchCut {nx cx0 : Nat} {Ax0 : Option Addr} {xs : List Int} (B M : Int) (w : World) (hx : RdI w w.heap.size Ax0 nx xs) (hmx : nx ≤ maxLen) :
    Calls Try.prog 4 #[.slice Ax0 nx cx0, .int .i64 B, .int .i64 M] w fun e w' => e = .returned (.bool true) ∧ Below w.heap.size w w' := by
  unfold maxLen at hmx
  have hlx := hid hx.len
  have hx' := hid hx
  clear hx
  by_cases hbigx : nx ≤ 1048576
  · skip
    have hLx : xs.length < 1099511627776 := by rw [hlx.out]; omega
    obtain ⟨R, hR⟩ : ∃ R, cutR xs B M = R := ⟨_, rfl⟩
    have hRl : R.length ≤ 20 := by rw [← hR]; exact cut_len
    have hR' := hid hR
    clear hR
    go_enter Try.func4, Try.ntmps4
    have hB0 := hid (Below.refl w.heap.size w)
    have hs0 := Nat.le_refl w.heap.size
    go_wp2_with fail
    refine (toIntS_any _ (Reads.more (Reads.below hx'.out hB0.out) (by omega)) (by omega)).mono ?_
    rintro e w1 ⟨va, rfl, oa, b1⟩
    have la_1 := hid (Lv.of oa)
    clear oa
    obtain ⟨Aa, ca, rfl⟩ := la_1.out.rd
    have b1 := hid b1
    have hB1 := hid (hB0.out.trans (b1.out.mono (by omega)))
    have hs1 := b1.out.size
    clear hB0
    go_wp2_with fail
    refine (BatchCut_spec _ _ _ la_1.out.at_ (by omega)).mono ?_
    rintro e w2 ⟨vp, rfl, op, b2⟩
    rw [hR'.out] at op
    have lp_2 := hid (Lv.ofI op)
    clear op
    obtain ⟨Ap, cp, rfl⟩ := lp_2.out.rd
    have b2 := hid b2
    have la_2 := hid (la_1.out.step b2.out)
    clear la_1
    have hB2 := hid (hB1.out.trans (b2.out.mono (by omega)))
    have hs2 := b2.out.size
    clear hB1
    clear la_2
    go_wp2_with fail
    refine (toIntS_any _ (Reads.more (Reads.below hx'.out hB2.out) (by omega)) (by omega)).mono ?_
    rintro e w3 ⟨vx, rfl, ox, b3⟩
    have lx_3 := hid (Lv.of ox)
    clear ox
    obtain ⟨Ax, cx, rfl⟩ := lx_3.out.rd
    have b3 := hid b3
    have lp_3 := hid (lp_2.out.step b3.out)
    clear lp_2
    have hB3 := hid (hB2.out.trans (b3.out.mono (by omega)))
    have hs3 := b3.out.size
    clear hB2
    go_wp2_with fail
    refine (BatchCut_impl _ _ _ lx_3.out.at_ (Nat.le_refl _) (by omega)).mono ?_
    rintro e w4 ⟨vg, rfl, og, b4⟩
    rw [hR'.out] at og
    have lg_4 := hid (Lv.ofI og)
    clear og
    obtain ⟨Ag, cg, rfl⟩ := lg_4.out.rd
    have b4 := hid b4
    have lp_4 := hid (lp_3.out.step b4.out)
    clear lp_3
    have lx_4 := hid (lx_3.out.step b4.out)
    clear lx_3
    have hB4 := hid (hB3.out.trans (b4.out.mono (by omega)))
    have hs4 := b4.out.size
    clear hB3
    go_wp2_with fail
    refine (eqIntS_any _ lg_4.out.at_ lp_4.out.at_ (by omega) (by omega)).mono ?_
    rw [sameB_self]
    rintro e w5 ⟨rfl, q5⟩
    have q5 := hid q5
    have lp_5 := hid (lp_4.out.quiet q5.out)
    clear lp_4
    have lx_5 := hid (lx_4.out.quiet q5.out)
    clear lx_4
    have lg_5 := hid (lg_4.out.quiet q5.out)
    clear lg_4
    have hB5 := hid (hB4.out.trans (q5.out.below _))
    have hs5 : w4.heap.size ≤ w5.heap.size := Nat.le_of_eq q5.out.size.symm
    clear hB4
    go_wp2_with fail
    refine (toIntS_any _ (Reads.more (Reads.below hx'.out hB5.out) (by omega)) (by omega)).mono ?_
    rintro e w6 ⟨vt, rfl, ot, b6⟩
    have lt_6 := hid (Lv.of ot)
    clear ot
    obtain ⟨At, ct, rfl⟩ := lt_6.out.rd
    have b6 := hid b6
    have lp_6 := hid (lp_5.out.step b6.out)
    clear lp_5
    have lx_6 := hid (lx_5.out.step b6.out)
    clear lx_5
    have lg_6 := hid (lg_5.out.step b6.out)
    clear lg_5
    have hB6 := hid (hB5.out.trans (b6.out.mono (by omega)))
    have hs6 := b6.out.size
    clear hB5
    go_wp2_with fail
    refine (eqIntS_any _ lx_6.out.at_ lt_6.out.at_ (by omega) (by omega)).mono ?_
    rw [sameB_self]
    rintro e w7 ⟨rfl, q7⟩
    have q7 := hid q7
    have lp_7 := hid (lp_6.out.quiet q7.out)
    clear lp_6
    have lx_7 := hid (lx_6.out.quiet q7.out)
    clear lx_6
    have lg_7 := hid (lg_6.out.quiet q7.out)
    clear lg_6
    have lt_7 := hid (lt_6.out.quiet q7.out)
    clear lt_6
    have hB7 := hid (hB6.out.trans (q7.out.below _))
    have hs7 : w6.heap.size ≤ w7.heap.size := Nat.le_of_eq q7.out.size.symm
    clear hB6
    clear lt_7
    go_wp2_with fail
    refine (markIntS_lv _ _ lx_7.out (by omega) (by omega) (by omega)).mono ?_
    rintro e w8 ⟨rfl, ox, g8, z8⟩
    have g8 := hid g8
    clear z8
    have lx_8 := hid ox
    clear ox
    have lp_8 := hid (lp_7.out.other lx_7.out g8.out (by omega))
    clear lp_7
    have lg_8 := hid (lg_7.out.other lx_7.out g8.out (by omega))
    clear lg_7
    have hB8 := hid (hB7.out.trans (lx_7.out.base g8.out (by omega) (by omega)))
    have hs8 := g8.out.size
    clear hB7
    clear lx_7
    go_wp2_with fail
    refine (eqIntS_any _ lg_8.out.at_ lp_8.out.at_ (by omega) (by omega)).mono ?_
    rw [sameB_self]
    rintro e w9 ⟨rfl, q9⟩
    have q9 := hid q9
    have lp_9 := hid (lp_8.out.quiet q9.out)
    clear lp_8
    have lx_9 := hid (lx_8.out.quiet q9.out)
    clear lx_8
    have lg_9 := hid (lg_8.out.quiet q9.out)
    clear lg_8
    have hB9 := hid (hB8.out.trans (q9.out.below _))
    have hs9 : w8.heap.size ≤ w9.heap.size := Nat.le_of_eq q9.out.size.symm
    clear hB8
    go_wp2_with fail
    refine (markIntS_lv _ _ lg_9.out (by omega) (by omega) (by omega)).mono ?_
    rintro e w10 ⟨rfl, og, g10, z10⟩
    have g10 := hid g10
    clear z10
    have lg_10 := hid og
    clear og
    have lp_10 := hid (lp_9.out.other lg_9.out g10.out (by omega))
    clear lp_9
    have lx_10 := hid (lx_9.out.other lg_9.out g10.out (by omega))
    clear lx_9
    have hB10 := hid (hB9.out.trans (lg_9.out.base g10.out (by omega) (by omega)))
    have hs10 := g10.out.size
    clear hB9
    clear lg_9
    go_wp2_with fail
    refine (heldIntS_any _ _ lg_10.out.at_ (by omega) (by omega) (by omega)).mono ?_
    rintro e w_ ⟨rfl, rfl⟩
    clear lx_10
    go_wp2_with fail
    refine (toIntS_any _ (Reads.more (Reads.below hx'.out hB10.out) (by omega)) (by omega)).mono ?_
    rintro e w11 ⟨vu, rfl, ou, b11⟩
    have lu_11 := hid (Lv.of ou)
    clear ou
    obtain ⟨Au, cu, rfl⟩ := lu_11.out.rd
    have b11 := hid b11
    have lp_11 := hid (lp_10.out.step b11.out)
    clear lp_10
    have lg_11 := hid (lg_10.out.step b11.out)
    clear lg_10
    have hB11 := hid (hB10.out.trans (b11.out.mono (by omega)))
    have hs11 := b11.out.size
    clear hB10
    go_wp2_with fail
    refine (BatchCut_impl _ _ _ lu_11.out.at_ (Nat.le_refl _) (by omega)).mono ?_
    rintro e w12 ⟨vh, rfl, oh, b12⟩
    rw [hR'.out] at oh
    have lh_12 := hid (Lv.ofI oh)
    clear oh
    obtain ⟨Ah, ch, rfl⟩ := lh_12.out.rd
    have b12 := hid b12
    have lp_12 := hid (lp_11.out.step b12.out)
    clear lp_11
    have lg_12 := hid (lg_11.out.step b12.out)
    clear lg_11
    have lu_12 := hid (lu_11.out.step b12.out)
    clear lu_11
    have hB12 := hid (hB11.out.trans (b12.out.mono (by omega)))
    have hs12 := b12.out.size
    clear hB11
    go_wp2_with fail
    refine (eqIntS_any _ lh_12.out.at_ lp_12.out.at_ (by omega) (by omega)).mono ?_
    rw [sameB_self]
    rintro e w13 ⟨rfl, q13⟩
    have q13 := hid q13
    have lp_13 := hid (lp_12.out.quiet q13.out)
    clear lp_12
    have lg_13 := hid (lg_12.out.quiet q13.out)
    clear lg_12
    have lu_13 := hid (lu_12.out.quiet q13.out)
    clear lu_12
    have lh_13 := hid (lh_12.out.quiet q13.out)
    clear lh_12
    have hB13 := hid (hB12.out.trans (q13.out.below _))
    have hs13 : w12.heap.size ≤ w13.heap.size := Nat.le_of_eq q13.out.size.symm
    clear hB12
    go_wp2_with fail
    refine (heldIntS_any _ _ lg_13.out.at_ (by omega) (by omega) (by omega)).mono ?_
    rintro e w_ ⟨rfl, rfl⟩
    go_wp2
    go_ret
    exact ⟨rfl, hB13.out⟩
  · go_enter Try.func4, Try.ntmps4
    go_wp2
    go_ret
    exact ⟨rfl, Below.refl _ _⟩

set_option maxHeartbeats 2000000 in
theorem exBatchFits {nx cx0 ny cy0 : Nat} {Ax0 Ay0 : Option Addr} {xs ys : List Int} (B M : Int) (w : World) (hx : RdI w w.heap.size Ax0 nx xs) (hmx : nx ≤ maxLen) (hy : RdI w w.heap.size Ay0 ny ys) (hmy : ny ≤ maxLen) :
    Calls Try.prog 5 #[.slice Ax0 nx cx0, .int .i64 B, .int .i64 M, .slice Ay0 ny cy0] w fun e w' => e = .returned (.bool true) ∧ Below w.heap.size w w' := by
  unfold maxLen at hmx hmy
  have hlx := hid hx.len
  have hx' := hid hx
  clear hx
  have hly := hid hy.len
  have hy' := hid hy
  clear hy
  by_cases hbigx : nx ≤ 1048576
  · skip
    by_cases hbigy : ny ≤ 1048576
    · skip
      have hLx : xs.length < 1099511627776 := by rw [hlx.out]; omega
      have hLy : ys.length < 1099511627776 := by rw [hly.out]; omega
      obtain ⟨R, hR⟩ : ∃ R, fitR xs B M ys = R := ⟨_, rfl⟩
      have hR' := hid hR
      clear hR
      have hbb : (R != R) = false := by simp
      go_enter Try.func5, Try.ntmps5
      have hB0 := hid (Below.refl w.heap.size w)
      have hs0 := Nat.le_refl w.heap.size
      go_wp2_with fail
      refine (toIntS_any _ (Reads.more (Reads.below hx'.out hB0.out) (by omega)) (by omega)).mono ?_
      rintro e w1 ⟨va, rfl, oa, b1⟩
      have la_1 := hid (Lv.of oa)
      clear oa
      obtain ⟨Aa, ca, rfl⟩ := la_1.out.rd
      have b1 := hid b1
      have hB1 := hid (hB0.out.trans (b1.out.mono (by omega)))
      have hs1 := b1.out.size
      clear hB0
      go_wp2_with fail
      refine (toIntS_any _ (Reads.more (Reads.below hy'.out hB1.out) (by omega)) (by omega)).mono ?_
      rintro e w2 ⟨vb, rfl, ob, b2⟩
      have lb_2 := hid (Lv.of ob)
      clear ob
      obtain ⟨Ab, cb, rfl⟩ := lb_2.out.rd
      have b2 := hid b2
      have la_2 := hid (la_1.out.step b2.out)
      clear la_1
      have hB2 := hid (hB1.out.trans (b2.out.mono (by omega)))
      have hs2 := b2.out.size
      clear hB1
      go_wp2_with fail
      refine (BatchFits_spec _ _ _ la_2.out.at_ lb_2.out.at_ (by omega) (by omega)).mono ?_
      rw [hR'.out]
      rintro e w_ ⟨rfl, rfl⟩
      clear la_2
      clear lb_2
      go_wp2_with fail
      refine (toIntS_any _ (Reads.more (Reads.below hx'.out hB2.out) (by omega)) (by omega)).mono ?_
      rintro e w3 ⟨vx, rfl, ox, b3⟩
      have lx_3 := hid (Lv.of ox)
      clear ox
      obtain ⟨Ax, cx, rfl⟩ := lx_3.out.rd
      have b3 := hid b3
      have hB3 := hid (hB2.out.trans (b3.out.mono (by omega)))
      have hs3 := b3.out.size
      clear hB2
      go_wp2_with fail
      refine (toIntS_any _ (Reads.more (Reads.below hy'.out hB3.out) (by omega)) (by omega)).mono ?_
      rintro e w4 ⟨vy, rfl, oy, b4⟩
      have ly_4 := hid (Lv.of oy)
      clear oy
      obtain ⟨Ay, cy, rfl⟩ := ly_4.out.rd
      have b4 := hid b4
      have lx_4 := hid (lx_3.out.step b4.out)
      clear lx_3
      have hB4 := hid (hB3.out.trans (b4.out.mono (by omega)))
      have hs4 := b4.out.size
      clear hB3
      go_wp2_with fail
      refine (BatchFits_impl _ _ _ lx_4.out.at_ (Nat.le_refl _) (by omega) lx_4.out.cap.1 lx_4.out.cap.2 ly_4.out.at_ (Nat.le_refl _) (by omega)).mono ?_
      rw [hR'.out]
      rintro e w5 ⟨rfl, b5⟩
      have b5 := hid b5
      have lx_5 := hid (lx_4.out.step b5.out)
      clear lx_4
      have ly_5 := hid (ly_4.out.step b5.out)
      clear ly_4
      have hB5 := hid (hB4.out.trans (b5.out.mono (by omega)))
      have hs5 := b5.out.size
      clear hB4
      go_wp2_with fail
      refine (toIntS_any _ (Reads.more (Reads.below hx'.out hB5.out) (by omega)) (by omega)).mono ?_
      rintro e w6 ⟨vt, rfl, ot, b6⟩
      have lt_6 := hid (Lv.of ot)
      clear ot
      obtain ⟨At, ct, rfl⟩ := lt_6.out.rd
      have b6 := hid b6
      have lx_6 := hid (lx_5.out.step b6.out)
      clear lx_5
      have ly_6 := hid (ly_5.out.step b6.out)
      clear ly_5
      have hB6 := hid (hB5.out.trans (b6.out.mono (by omega)))
      have hs6 := b6.out.size
      clear hB5
      go_wp2_with fail
      refine (eqIntS_any _ lx_6.out.at_ lt_6.out.at_ (by omega) (by omega)).mono ?_
      rw [sameB_self]
      rintro e w7 ⟨rfl, q7⟩
      have q7 := hid q7
      have lx_7 := hid (lx_6.out.quiet q7.out)
      clear lx_6
      have ly_7 := hid (ly_6.out.quiet q7.out)
      clear ly_6
      have lt_7 := hid (lt_6.out.quiet q7.out)
      clear lt_6
      have hB7 := hid (hB6.out.trans (q7.out.below _))
      have hs7 : w6.heap.size ≤ w7.heap.size := Nat.le_of_eq q7.out.size.symm
      clear hB6
      clear lt_7
      go_wp2_with fail
      refine (toIntS_any _ (Reads.more (Reads.below hy'.out hB7.out) (by omega)) (by omega)).mono ?_
      rintro e w8 ⟨vt2, rfl, ot2, b8⟩
      have lt2_8 := hid (Lv.of ot2)
      clear ot2
      obtain ⟨At2, ct2, rfl⟩ := lt2_8.out.rd
      have b8 := hid b8
      have lx_8 := hid (lx_7.out.step b8.out)
      clear lx_7
      have ly_8 := hid (ly_7.out.step b8.out)
      clear ly_7
      have hB8 := hid (hB7.out.trans (b8.out.mono (by omega)))
      have hs8 := b8.out.size
      clear hB7
      go_wp2_with fail
      refine (eqIntS_any _ ly_8.out.at_ lt2_8.out.at_ (by omega) (by omega)).mono ?_
      rw [sameB_self]
      rintro e w9 ⟨rfl, q9⟩
      have q9 := hid q9
      have lx_9 := hid (lx_8.out.quiet q9.out)
      clear lx_8
      have ly_9 := hid (ly_8.out.quiet q9.out)
      clear ly_8
      have lt2_9 := hid (lt2_8.out.quiet q9.out)
      clear lt2_8
      have hB9 := hid (hB8.out.trans (q9.out.below _))
      have hs9 : w8.heap.size ≤ w9.heap.size := Nat.le_of_eq q9.out.size.symm
      clear hB8
      go_wp2
      go_ret
      exact ⟨rfl, hB9.out⟩
    · go_enter Try.func5, Try.ntmps5
      go_wp2
      go_ret
      exact ⟨rfl, Below.refl _ _⟩
  · go_enter Try.func5, Try.ntmps5
    go_wp2
    go_ret
    exact ⟨rfl, Below.refl _ _⟩

set_option maxHeartbeats 2000000 in
theorem exBatchOf {nx cx0 : Nat} {Ax0 : Option Addr} {xs : List Int} (z : Int) (w : World) (hx : RdI w w.heap.size Ax0 nx xs) (hmx : nx ≤ maxLen) :
    Calls Try.prog 6 #[.slice Ax0 nx cx0, .int .i64 z] w fun e w' => e = .returned (.bool true) ∧ Below w.heap.size w w' := by
  unfold maxLen at hmx
  have hlx := hid hx.len
  have hx' := hid hx
  clear hx
  by_cases hbigx : nx ≤ 1048576
  · skip
    have hLx : xs.length < 1099511627776 := by rw [hlx.out]; omega
    obtain ⟨R, hR⟩ : ∃ R, ofR xs z = R := ⟨_, rfl⟩
    have hR' := hid hR
    clear hR
    have hbb : (R != R) = false := by simp
    go_enter Try.func6, Try.ntmps6
    have hB0 := hid (Below.refl w.heap.size w)
    have hs0 := Nat.le_refl w.heap.size
    go_wp2_with fail
    refine (toIntS_any _ (Reads.more (Reads.below hx'.out hB0.out) (by omega)) (by omega)).mono ?_
    rintro e w1 ⟨va, rfl, oa, b1⟩
    have la_1 := hid (Lv.of oa)
    clear oa
    obtain ⟨Aa, ca, rfl⟩ := la_1.out.rd
    have b1 := hid b1
    have hB1 := hid (hB0.out.trans (b1.out.mono (by omega)))
    have hs1 := b1.out.size
    clear hB0
    go_wp2_with fail
    refine (BatchOf_spec _ _ la_1.out.at_ (by omega)).mono ?_
    rw [hR'.out]
    rintro e w_ ⟨rfl, rfl⟩
    clear la_1
    go_wp2_with fail
    refine (toIntS_any _ (Reads.more (Reads.below hx'.out hB1.out) (by omega)) (by omega)).mono ?_
    rintro e w2 ⟨vx, rfl, ox, b2⟩
    have lx_2 := hid (Lv.of ox)
    clear ox
    obtain ⟨Ax, cx, rfl⟩ := lx_2.out.rd
    have b2 := hid b2
    have hB2 := hid (hB1.out.trans (b2.out.mono (by omega)))
    have hs2 := b2.out.size
    clear hB1
    go_wp2_with fail
    refine (BatchOf_impl _ _ lx_2.out.at_ (Nat.le_refl _) (by omega)).mono ?_
    rw [hR'.out]
    rintro e w3 ⟨rfl, b3⟩
    have b3 := hid b3
    have lx_3 := hid (lx_2.out.step b3.out)
    clear lx_2
    have hB3 := hid (hB2.out.trans (b3.out.mono (by omega)))
    have hs3 := b3.out.size
    clear hB2
    go_wp2_with fail
    refine (toIntS_any _ (Reads.more (Reads.below hx'.out hB3.out) (by omega)) (by omega)).mono ?_
    rintro e w4 ⟨vt, rfl, ot, b4⟩
    have lt_4 := hid (Lv.of ot)
    clear ot
    obtain ⟨At, ct, rfl⟩ := lt_4.out.rd
    have b4 := hid b4
    have lx_4 := hid (lx_3.out.step b4.out)
    clear lx_3
    have hB4 := hid (hB3.out.trans (b4.out.mono (by omega)))
    have hs4 := b4.out.size
    clear hB3
    go_wp2_with fail
    refine (eqIntS_any _ lx_4.out.at_ lt_4.out.at_ (by omega) (by omega)).mono ?_
    rw [sameB_self]
    rintro e w5 ⟨rfl, q5⟩
    have q5 := hid q5
    have lx_5 := hid (lx_4.out.quiet q5.out)
    clear lx_4
    have lt_5 := hid (lt_4.out.quiet q5.out)
    clear lt_4
    have hB5 := hid (hB4.out.trans (q5.out.below _))
    have hs5 : w4.heap.size ≤ w5.heap.size := Nat.le_of_eq q5.out.size.symm
    clear hB4
    go_wp2
    go_ret
    exact ⟨rfl, hB5.out⟩
  · go_enter Try.func6, Try.ntmps6
    go_wp2
    go_ret
    exact ⟨rfl, Below.refl _ _⟩

end Go.Proofs.Ytolkimmbmnnleaa
