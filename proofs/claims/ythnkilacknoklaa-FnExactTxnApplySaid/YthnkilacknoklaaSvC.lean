/-
  The walks of the exact laws of TxnValid, TxnGroups: the law returns true and writes nothing that was there. No condition.
-/
import Derived.Test.YthnkilacknoklaaSvB
import Derived.Test.YthnkilacknoklaaSoF
import Derived.Test.YthnkilacknoklaaSpG
import Derived.Deep.CutBlock
import Derived.Deep.RegionLaw
import Derived.Deep.RegionHeld3
import Derived.Deep.DeepCutAuto
namespace Go.Proofs.Ythnkilacknoklaa
open Go.RowKit
set_option linter.unusedVariables false
set_option linter.unusedSimpArgs false


section
variable {A A1 A2 : Option Addr} {n c n1 c1 n2 c2 : Nat} {gs zs Z G : List Int} {xs : List (Int × Int)} {m : Int} {R ok : Bool}

theorem TxnValid_sE (hR : vtx ⟨gs, m, xs⟩ = R) (w : World) (h1 : RdI w w.heap.size A1 n1 gs) (h2 : RdP w A2 n2 xs) (l1 : n1 < 1099511627776) (l2 : n2 < 1099511627776) :
    Calls Try.prog 15 #[txV (.slice A1 n1 c1) m (.slice A2 n2 c2)] w fun e w' => e = .returned (.bool R) ∧ Below w.heap.size w w' := by
  subst hR; exact TxnValid_spec (t := ⟨gs, m, xs⟩) w ⟨h1, h2, l1, l2⟩

theorem TxnValid_iE (hR : vtx ⟨gs, m, xs⟩ = R) (w : World) (h1 : RdI w w.heap.size A1 n1 gs) (h2 : RdP w A2 n2 xs) (l1 : n1 < 1099511627776) (l2 : n2 < 1099511627776) :
    Calls Try.prog 17 #[txV (.slice A1 n1 c1) m (.slice A2 n2 c2)] w fun e w' => e = .returned (.bool R) ∧ Below w.heap.size w w' := by
  subst hR; exact TxnValid_impl (t := ⟨gs, m, xs⟩) w ⟨h1, h2, l1, l2⟩
/-- a new slice -/
def NewS (w : World) (G : List Int) (e : Ending) (w' : World) : Prop := ∃ A c, e = .returned (.slice A G.length c) ∧ OwI w' w.heap.size (.slice A G.length c) G ∧ Below w.heap.size w w'

theorem NewS.of {w w' : World} {e : Ending} (h : NewI w G e w') : NewS w G e w' := by
  obtain ⟨v, rfl, ho, hb⟩ := h
  obtain ⟨A, c, rfl, -⟩ := ho.form
  exact ⟨A, c, rfl, ho, hb⟩

theorem TxnGroups_sE (hR : tgrpR ⟨gs, m, xs⟩ = G) (w : World) (h1 : RdI w w.heap.size A1 n1 gs) (h2 : RdP w A2 n2 xs) (l1 : n1 < 1099511627776) (l2 : n2 < 1099511627776) :
    Calls Try.prog 19 #[txV (.slice A1 n1 c1) m (.slice A2 n2 c2)] w (NewS w G) := by
  subst hR; exact (TxnGroups_spec (t := ⟨gs, m, xs⟩) w ⟨h1, h2, l1, l2⟩).mono fun _ _ h => NewS.of h

theorem TxnGroups_iE (hR : tgrpR ⟨gs, m, xs⟩ = G) (w : World) (h1 : RdI w w.heap.size A1 n1 gs) (h2 : RdP w A2 n2 xs) (l1 : n1 < 1099511627776) (l2 : n2 < 1099511627776) :
    Calls Try.prog 20 #[txV (.slice A1 n1 c1) m (.slice A2 n2 c2)] w (NewS w G) := by
  subst hR; exact (TxnGroups_impl (t := ⟨gs, m, xs⟩) w ⟨h1, h2, l1, l2⟩).mono fun _ _ h => NewS.of h
end

theorem tgrpR_len {t : Tx} {G : List Int} (h : tgrpR t = G) : G.length ≤ 5 := by
  rw [← h]
  unfold tgrpR
  split
  · exact grps_len _ 5
  · exact Nat.zero_le _

set_option maxRecDepth 100000 in
set_option maxHeartbeats 16000000 in
theorem exTxnValid {n c m d : Nat} {A B : Option Addr} {gs : List Int} {xs : List (Int × Int)} (i  : Int) (w : World) (h1 : RdI w w.heap.size A n gs) (hn : n ≤ maxLen) (h2 : RdPA w B m xs) (hm : m ≤ maxLen) :
    Calls Try.prog 4 #[txV (.slice A n c) i (.slice B m d)] w fun e w' => e = .returned (.bool true) ∧ Below w.heap.size w w' := by
  unfold maxLen at hn hm
  obtain rfl := h1.len
  obtain rfl := h2.1
  have hx1 := hid h1
  have hx2 := hid h2
  clear h1 h2
  obtain ⟨u0, hu0⟩ : ∃ W, w.alloc (.cells #[.slice A gs.length c, .int .i64 i, .slice B xs.length d] 28) = W := ⟨_, rfl⟩
  have B_0 := hid (show Below w.heap.size w u0 by rw [← hu0]; exact below1 _ _)
  have Ka_0 := hid (show Cs u0 w.heap.size 28 #[.slice A gs.length c, .int .i64 i, .slice B xs.length d] by rw [← hu0]; exact Cs.new _ _ _)
  have ya_0 : w.heap.size < u0.heap.size := Ka_0.out.lt
  replace hu0 := hid hu0
  by_cases hbig : gs.length + xs.length ≤ 1048576
  · have hz : (if gs.length + xs.length ≤ 1048576 then 1048576 - (gs.length : Int) - (xs.length : Int) else -1) = 1048576 - (gs.length : Int) - (xs.length : Int) := if_pos hbig
    have hnn : gs.length < 1099511627776 := by omega
    have hmm : xs.length < 1099511627776 := by omega
    have gz : ¬ (1048576 - (gs.length : Int) - (xs.length : Int) < 0) := by omega
    replace hz := hid hz
    obtain ⟨R, hR⟩ : ∃ R, vtx ⟨gs, i, xs⟩ = R := ⟨_, rfl⟩
    replace hR := hid hR
    go_enter Try.func4, Try.ntmps4
    go_upto_region 2 with (fail)
    rw [hu0.out]
    obtain ⟨qa0, qa1, qa2⟩ := Ka_0.out.tri
    go_wp2_with fail
    refine (szTxn_any i _ (by omega) (by omega) hz.out).mono ?_
    rintro e u1 ⟨rfl, hb⟩
    clear qa0 qa1 qa2
    have hb_1 := hid hb
    have Ka_1 := hid (Ka_0.out.step hb_1.out)
    have B_1 := hid (B_0.out.trans (hb_1.out.mono (by omega)))
    have z_1 : u0.heap.size ≤ u1.heap.size := hb_1.out.size
    clear Ka_0 B_0
    clear hb_1
    clear hb
    obtain ⟨qa0, qa1, qa2⟩ := Ka_1.out.tri
    go_wp2_with fail
    refine (toTxn_any i _ ((Reads.below hx1.out B_1.out).more B_1.out.size) (hx2.out.below B_1.out) hnn hmm).mono ?_
    rintro e u2 ⟨Ap, cp, Bp, dp, rfl, op, hb⟩
    clear qa0 qa1 qa2
    have hb_2 := hid hb
    have Ka_2 := hid (Ka_1.out.step hb_2.out)
    have B_2 := hid (B_1.out.trans (hb_2.out.mono (by omega)))
    have z_2 : u1.heap.size ≤ u2.heap.size := hb_2.out.size
    clear Ka_1 B_1
    clear hb_2
    clear hb
    have Lp_2 := hid (Lt.of op)
    clear op
    go_wp2_with fail
    refine (TxnValid_sE hR.out _ Lp_2.out.r1 Lp_2.out.r2 (by omega) (by omega)).mono ?_
    rintro e u3 ⟨rfl, hb⟩
    have hb_3 := hid hb
    have Ka_3 := hid (Ka_2.out.step hb_3.out)
    have Lp_3 := hid (Lp_2.out.step hb_3.out)
    have B_3 := hid (B_2.out.trans (hb_3.out.mono (by omega)))
    have z_3 : u2.heap.size ≤ u3.heap.size := hb_3.out.size
    clear Ka_2 Lp_2 B_2
    clear hb_3
    clear hb
    clear Lp_3
    obtain ⟨qa0, qa1, qa2⟩ := Ka_3.out.tri
    go_wp2_with fail
    refine (toTxn_any i _ ((Reads.below hx1.out B_3.out).more B_3.out.size) (hx2.out.below B_3.out) hnn hmm).mono ?_
    rintro e u4 ⟨Ax, cx, Bx, dx, rfl, ox, hb⟩
    clear qa0 qa1 qa2
    have hb_4 := hid hb
    have Ka_4 := hid (Ka_3.out.step hb_4.out)
    have B_4 := hid (B_3.out.trans (hb_4.out.mono (by omega)))
    have z_4 : u3.heap.size ≤ u4.heap.size := hb_4.out.size
    clear Ka_3 B_3
    clear hb_4
    clear hb
    have Lx_4 := hid (Lt.of ox)
    clear ox
    go_upto_region 7 with (fail)
    obtain ⟨u5, hu⟩ : ∃ W, (u4.alloc (.cells #[.slice Ax gs.length cx, .int .i64 i, .slice Bx xs.length dx] 33)) = W := ⟨_, rfl⟩
    rw [hu]
    have hb : Below u4.heap.size u4 u5 := by rw [← hu]; exact below1 _ _
    have hcx : Cs u5 (u4.heap.size) 33 #[.slice Ax gs.length cx, .int .i64 i, .slice Bx xs.length dx] := by rw [← hu]; exact Cs.new _ _ _
    clear hu
    have hb_5 := hid hb
    have Ka_5 := hid (Ka_4.out.step hb_5.out)
    have Lx_5 := hid (Lx_4.out.step hb_5.out)
    have B_5 := hid (B_4.out.trans (hb_5.out.mono (by omega)))
    have z_5 : u4.heap.size ≤ u5.heap.size := hb_5.out.size
    clear Ka_4 Lx_4 B_4
    clear hb_5
    clear hb
    have Kx_5 := hid hcx
    have yx_5 : u4.heap.size < u5.heap.size := hcx.lt
    clear hcx
    obtain ⟨qx0, qx1, qx2⟩ := Kx_5.out.tri
    go_wp2_with fail
    refine (TxnValid_iE hR.out _ Lx_5.out.r1 Lx_5.out.r2 (by omega) (by omega)).mono ?_
    rintro e u6 ⟨rfl, hb⟩
    clear qx0 qx1 qx2
    have hb_6 := hid hb
    have Ka_6 := hid (Ka_5.out.step hb_6.out)
    have Kx_6 := hid (Kx_5.out.step hb_6.out)
    have Lx_6 := hid (Lx_5.out.step hb_6.out)
    have B_6 := hid (B_5.out.trans (hb_6.out.mono (by omega)))
    have z_6 : u5.heap.size ≤ u6.heap.size := hb_6.out.size
    clear Ka_5 Kx_5 Lx_5 B_5
    clear hb_6
    clear hb
    have hbb : (R != R) = false := by cases R <;> rfl
    have hd := hid (Below.refl u6.heap.size u6).drew
    have Ka_d := hid (Ka_6.out.step hd.out)
    have Kx_d := hid (Kx_6.out.step hd.out)
    have Lx_d := hid (Lx_6.out.step hd.out)
    have B_d := hid (B_6.out.trans (hd.out.mono (by omega)))
    have z_d : u6.heap.size ≤ u6.drew.heap.size := hd.out.size
    have qe0 := And.intro Kx_d.out.tri Ka_d.out.tri
    have qf0 := And.intro Kx_6.out.tri Ka_6.out.tri
    go_wp2_with fail
    go_region_held3 (fun w' => (w'.cell? ⟨u4.heap.size, 0, none⟩ = some (.slice Ax gs.length cx) ∧ w'.cell? ⟨u4.heap.size, 1, none⟩ = some (.int .i64 i) ∧ w'.cell? ⟨u4.heap.size, 2, none⟩ = some (.slice Bx xs.length dx)) ∧ w'.cell? ⟨w.heap.size, 0, none⟩ = some (.slice A gs.length c) ∧ w'.cell? ⟨w.heap.size, 1, none⟩ = some (.int .i64 i) ∧ w'.cell? ⟨w.heap.size, 2, none⟩ = some (.slice B xs.length d))
      (first | with_reducible exact qe0 | with_reducible exact qe1 | with_reducible exact qe2 | with_reducible exact qf0 | go_keep)
      (first | (go_at_call 16; (refine (toTxn_any i _ ((Reads.below hx1.out B_d.out).more B_d.out.size) (hx2.out.below B_d.out) hnn hmm).mono ?_); rintro e ud ⟨Ad, cd, Bd, dd, rfl, od, hb⟩; have Ka_e := hid (Ka_d.out.step hb); have Kx_e := hid (Kx_d.out.step hb); have Lx_e := hid (Lx_d.out.step hb); have B_e := hid (B_d.out.trans (hb.mono (by omega))); have z_e := hb.size; have Ld_e := hid (Lt.of od); have qe1 := And.intro Kx_e.out.tri Ka_e.out.tri; clear hb od) | (go_at_call 18; (refine (eqTxn_same i _ Lx_e.out.r1 Lx_e.out.r2 Ld_e.out.r1 Ld_e.out.r2 (by omega) (by omega)).mono ?_); rintro e u7 ⟨rfl, hb⟩; have Ka_7 := hid (Ka_e.out.step hb); have Kx_7 := hid (Kx_e.out.step hb); have Lx_7 := hid (Lx_e.out.step hb); have B_7 := hid (B_e.out.trans (hb.mono (by omega))); have z_7 : u6.heap.size ≤ u7.heap.size := Nat.le_trans z_d (Nat.le_trans z_e hb.size); have qe2 := And.intro Kx_7.out.tri Ka_7.out.tri; clear hb))
    clear qe0 qf0 qe1 qe2 hd B_d B_e Ld_e z_d z_e
    clear Ka_d Kx_d Lx_d
    clear Ka_e Kx_e Lx_e
    clear Ka_6 Kx_6 Lx_6 B_6
    go_wp2
    go_ret
    exact ⟨rfl, B_7.out⟩
  · have hz : (if gs.length + xs.length ≤ 1048576 then 1048576 - (gs.length : Int) - (xs.length : Int) else -1) = -1 := if_neg hbig
    replace hz := hid hz
    obtain ⟨qa0, qa1, qa2⟩ := Ka_0.out.tri
    go_enter Try.func4, Try.ntmps4
    go_upto_region 2 with (fail)
    rw [hu0.out]
    go_wp2_with fail
    refine (szTxn_any i _ (by omega) (by omega) hz.out).mono ?_
    rintro e w1 ⟨rfl, hb⟩
    have hB := hid (B_0.out.trans (hb.mono (by omega)))
    clear hb
    go_wp2
    go_ret
    exact ⟨rfl, hB.out⟩

set_option maxRecDepth 100000 in
set_option maxHeartbeats 16000000 in
theorem exTxnGroups {n c m d : Nat} {A B : Option Addr} {gs : List Int} {xs : List (Int × Int)} (i  : Int) (w : World) (h1 : RdI w w.heap.size A n gs) (hn : n ≤ maxLen) (h2 : RdPA w B m xs) (hm : m ≤ maxLen) :
    Calls Try.prog 5 #[txV (.slice A n c) i (.slice B m d)] w fun e w' => e = .returned (.bool true) ∧ Below w.heap.size w w' := by
  unfold maxLen at hn hm
  obtain rfl := h1.len
  obtain rfl := h2.1
  have hx1 := hid h1
  have hx2 := hid h2
  clear h1 h2
  obtain ⟨u0, hu0⟩ : ∃ W, w.alloc (.cells #[.slice A gs.length c, .int .i64 i, .slice B xs.length d] 28) = W := ⟨_, rfl⟩
  have B_0 := hid (show Below w.heap.size w u0 by rw [← hu0]; exact below1 _ _)
  have Ka_0 := hid (show Cs u0 w.heap.size 28 #[.slice A gs.length c, .int .i64 i, .slice B xs.length d] by rw [← hu0]; exact Cs.new _ _ _)
  have ya_0 : w.heap.size < u0.heap.size := Ka_0.out.lt
  replace hu0 := hid hu0
  by_cases hbig : gs.length + xs.length ≤ 1048576
  · have hz : (if gs.length + xs.length ≤ 1048576 then 1048576 - (gs.length : Int) - (xs.length : Int) else -1) = 1048576 - (gs.length : Int) - (xs.length : Int) := if_pos hbig
    have hnn : gs.length < 1099511627776 := by omega
    have hmm : xs.length < 1099511627776 := by omega
    have gz : ¬ (1048576 - (gs.length : Int) - (xs.length : Int) < 0) := by omega
    replace hz := hid hz
    obtain ⟨M, hR⟩ : ∃ M, tgrpR ⟨gs, i, xs⟩ = M := ⟨_, rfl⟩
    have hMl := tgrpR_len hR
    replace hR := hid hR
    go_enter Try.func5, Try.ntmps5
    go_upto_region 2 with (fail)
    rw [hu0.out]
    obtain ⟨qa0, qa1, qa2⟩ := Ka_0.out.tri
    go_wp2_with fail
    refine (szTxn_any i _ (by omega) (by omega) hz.out).mono ?_
    rintro e u1 ⟨rfl, hb⟩
    clear qa0 qa1 qa2
    have hb_1 := hid hb
    have Ka_1 := hid (Ka_0.out.step hb_1.out)
    have B_1 := hid (B_0.out.trans (hb_1.out.mono (by omega)))
    have z_1 : u0.heap.size ≤ u1.heap.size := hb_1.out.size
    clear Ka_0 B_0
    clear hb_1
    clear hb
    obtain ⟨qa0, qa1, qa2⟩ := Ka_1.out.tri
    go_wp2_with fail
    refine (toTxn_any i _ ((Reads.below hx1.out B_1.out).more B_1.out.size) (hx2.out.below B_1.out) hnn hmm).mono ?_
    rintro e u2 ⟨Ap, cp, Bp, dp, rfl, op, hb⟩
    clear qa0 qa1 qa2
    have hb_2 := hid hb
    have Ka_2 := hid (Ka_1.out.step hb_2.out)
    have B_2 := hid (B_1.out.trans (hb_2.out.mono (by omega)))
    have z_2 : u1.heap.size ≤ u2.heap.size := hb_2.out.size
    clear Ka_1 B_1
    clear hb_2
    clear hb
    have Lp_2 := hid (Lt.of op)
    clear op
    go_wp2_with fail
    refine (TxnGroups_sE hR.out _ Lp_2.out.r1 Lp_2.out.r2 (by omega) (by omega)).mono ?_
    rintro e u3 ⟨At, ct, rfl, ot, hb⟩
    have hb_3 := hid hb
    have Ka_3 := hid (Ka_2.out.step hb_3.out)
    have Lp_3 := hid (Lp_2.out.step hb_3.out)
    have B_3 := hid (B_2.out.trans (hb_3.out.mono (by omega)))
    have z_3 : u2.heap.size ≤ u3.heap.size := hb_3.out.size
    clear Ka_2 Lp_2 B_2
    clear hb_3
    clear hb
    have Nt_3 := hid (Lv.ofI ot)
    clear ot
    clear Lp_3
    obtain ⟨qa0, qa1, qa2⟩ := Ka_3.out.tri
    go_wp2_with fail
    refine (toTxn_any i _ ((Reads.below hx1.out B_3.out).more B_3.out.size) (hx2.out.below B_3.out) hnn hmm).mono ?_
    rintro e u4 ⟨Ax, cx, Bx, dx, rfl, ox, hb⟩
    clear qa0 qa1 qa2
    have hb_4 := hid hb
    have Ka_4 := hid (Ka_3.out.step hb_4.out)
    have Nt_4 := hid (Nt_3.out.step hb_4.out)
    have B_4 := hid (B_3.out.trans (hb_4.out.mono (by omega)))
    have z_4 : u3.heap.size ≤ u4.heap.size := hb_4.out.size
    clear Ka_3 Nt_3 B_3
    clear hb_4
    clear hb
    have Lx_4 := hid (Lt.of ox)
    clear ox
    go_upto_region 7 with (fail)
    obtain ⟨u5, hu⟩ : ∃ W, (u4.alloc (.cells #[.slice Ax gs.length cx, .int .i64 i, .slice Bx xs.length dx] 33)) = W := ⟨_, rfl⟩
    rw [hu]
    have hb : Below u4.heap.size u4 u5 := by rw [← hu]; exact below1 _ _
    have hcx : Cs u5 (u4.heap.size) 33 #[.slice Ax gs.length cx, .int .i64 i, .slice Bx xs.length dx] := by rw [← hu]; exact Cs.new _ _ _
    clear hu
    have hb_5 := hid hb
    have Ka_5 := hid (Ka_4.out.step hb_5.out)
    have Lx_5 := hid (Lx_4.out.step hb_5.out)
    have Nt_5 := hid (Nt_4.out.step hb_5.out)
    have B_5 := hid (B_4.out.trans (hb_5.out.mono (by omega)))
    have z_5 : u4.heap.size ≤ u5.heap.size := hb_5.out.size
    clear Ka_4 Lx_4 Nt_4 B_4
    clear hb_5
    clear hb
    have Kx_5 := hid hcx
    have yx_5 : u4.heap.size < u5.heap.size := hcx.lt
    clear hcx
    obtain ⟨qx0, qx1, qx2⟩ := Kx_5.out.tri
    go_wp2_with fail
    refine (TxnGroups_iE hR.out _ Lx_5.out.r1 Lx_5.out.r2 (by omega) (by omega)).mono ?_
    rintro e u6 ⟨Ag, cg, rfl, og, hb⟩
    clear qx0 qx1 qx2
    have hb_6 := hid hb
    have Ka_6 := hid (Ka_5.out.step hb_6.out)
    have Kx_6 := hid (Kx_5.out.step hb_6.out)
    have Lx_6 := hid (Lx_5.out.step hb_6.out)
    have Nt_6 := hid (Nt_5.out.step hb_6.out)
    have B_6 := hid (B_5.out.trans (hb_6.out.mono (by omega)))
    have z_6 : u5.heap.size ≤ u6.heap.size := hb_6.out.size
    clear Ka_5 Kx_5 Lx_5 Nt_5 B_5
    clear hb_6
    clear hb
    have Ng_6 := hid (Lv.ofI og)
    clear og
    go_wp2_with fail
    refine (eqIntS_any _ Ng_6.out.at_ Nt_6.out.at_ (by omega) (by omega)).mono ?_
    rw [sameB_self]
    rintro e u7 ⟨rfl, hq⟩
    have hb_7 := hid (hq.below u6.heap.size)
    have Ka_7 := hid (Ka_6.out.step hb_7.out)
    have Kx_7 := hid (Kx_6.out.step hb_7.out)
    have Lx_7 := hid (Lx_6.out.step hb_7.out)
    have Nt_7 := hid (Nt_6.out.step hb_7.out)
    have Ng_7 := hid (Ng_6.out.step hb_7.out)
    have B_7 := hid (B_6.out.trans (hb_7.out.mono (by omega)))
    have z_7 : u6.heap.size ≤ u7.heap.size := hb_7.out.size
    clear Ka_6 Kx_6 Lx_6 Nt_6 Ng_6 B_6
    clear hb_7
    clear hq
    have hd := hid (Below.refl u7.heap.size u7).drew
    have Ka_d := hid (Ka_7.out.step hd.out)
    have Kx_d := hid (Kx_7.out.step hd.out)
    have Lx_d := hid (Lx_7.out.step hd.out)
    have Nt_d := hid (Nt_7.out.step hd.out)
    have Ng_d := hid (Ng_7.out.step hd.out)
    have B_d := hid (B_7.out.trans (hd.out.mono (by omega)))
    have z_d : u7.heap.size ≤ u7.drew.heap.size := hd.out.size
    have qe0 := And.intro Kx_d.out.tri Ka_d.out.tri
    have qf0 := And.intro Kx_7.out.tri Ka_7.out.tri
    go_wp2_with fail
    go_region_held3 (fun w' => (w'.cell? ⟨u4.heap.size, 0, none⟩ = some (.slice Ax gs.length cx) ∧ w'.cell? ⟨u4.heap.size, 1, none⟩ = some (.int .i64 i) ∧ w'.cell? ⟨u4.heap.size, 2, none⟩ = some (.slice Bx xs.length dx)) ∧ w'.cell? ⟨w.heap.size, 0, none⟩ = some (.slice A gs.length c) ∧ w'.cell? ⟨w.heap.size, 1, none⟩ = some (.int .i64 i) ∧ w'.cell? ⟨w.heap.size, 2, none⟩ = some (.slice B xs.length d))
      (first | with_reducible exact qe0 | with_reducible exact qe1 | with_reducible exact qe2 | with_reducible exact qf0 | go_keep)
      (first | (go_at_call 16; (refine (toTxn_any i _ ((Reads.below hx1.out B_d.out).more B_d.out.size) (hx2.out.below B_d.out) hnn hmm).mono ?_); rintro e ud ⟨Ad, cd, Bd, dd, rfl, od, hb⟩; have Ka_e := hid (Ka_d.out.step hb); have Kx_e := hid (Kx_d.out.step hb); have Lx_e := hid (Lx_d.out.step hb); have Nt_e := hid (Nt_d.out.step hb); have Ng_e := hid (Ng_d.out.step hb); have B_e := hid (B_d.out.trans (hb.mono (by omega))); have z_e := hb.size; have Ld_e := hid (Lt.of od); have qe1 := And.intro Kx_e.out.tri Ka_e.out.tri; clear hb od) | (go_at_call 18; (refine (eqTxn_same i _ Lx_e.out.r1 Lx_e.out.r2 Ld_e.out.r1 Ld_e.out.r2 (by omega) (by omega)).mono ?_); rintro e u8 ⟨rfl, hb⟩; have Ka_8 := hid (Ka_e.out.step hb); have Kx_8 := hid (Kx_e.out.step hb); have Lx_8 := hid (Lx_e.out.step hb); have Nt_8 := hid (Nt_e.out.step hb); have Ng_8 := hid (Ng_e.out.step hb); have B_8 := hid (B_e.out.trans (hb.mono (by omega))); have z_8 : u7.heap.size ≤ u8.heap.size := Nat.le_trans z_d (Nat.le_trans z_e hb.size); have qe2 := And.intro Kx_8.out.tri Ka_8.out.tri; clear hb))
    clear qe0 qf0 qe1 qe2 hd B_d B_e Ld_e z_d z_e
    clear Ka_d Kx_d Lx_d Nt_d Ng_d
    clear Ka_e Kx_e Lx_e Nt_e Ng_e
    clear Ka_7 Kx_7 Lx_7 Nt_7 Ng_7 B_7
    obtain ⟨qx0, qx1, qx2⟩ := Kx_8.out.tri
    go_wp2_with fail
    refine (markTxn_any i 1 _ Lx_8.out (by omega) (by omega) (by omega) (by omega)).mono ?_
    rintro e u9 ⟨rfl, hL, hK⟩
    clear qx0 qx1 qx2
    have hk_9 := hid hK
    have z_9 : u8.heap.size ≤ u9.heap.size := hk_9.out.size
    have Ka_9 := hid (Ka_8.out.kp hk_9.out (fun (h : u3.heap.size ≤ w.heap.size ∧ w.heap.size < u4.heap.size) => by omega))
    have Kx_9 := hid (Kx_8.out.kp hk_9.out (fun (h : u3.heap.size ≤ u4.heap.size ∧ u4.heap.size < u4.heap.size) => by omega))
    have Nt_9 := hid (Nt_8.out.kp hk_9.out (fun b h1 h2 (h3 : u3.heap.size ≤ b ∧ b < u4.heap.size) => by omega))
    have Ng_9 := hid (Ng_8.out.kp hk_9.out (fun b h1 h2 (h3 : u3.heap.size ≤ b ∧ b < u4.heap.size) => by omega))
    have B_9 := hid (B_8.out.trans (hk_9.out.base (by omega) (fun b (h : u3.heap.size ≤ b ∧ b < u4.heap.size) => by omega)))
    clear Ka_8 Kx_8 Lx_8 Nt_8 Ng_8 B_8
    clear hk_9
    have Lx_9 := hid hL
    clear hL hK
    have gk : ¬ (1 + (gs.length : Int) + 2 * (xs.length : Int) < 0) := by omega
    go_wp2_with fail
    refine (eqIntS_any _ Ng_9.out.at_ Nt_9.out.at_ (by omega) (by omega)).mono ?_
    rw [sameB_self]
    rintro e u10 ⟨rfl, hq⟩
    have hb_10 := hid (hq.below u9.heap.size)
    have Ka_10 := hid (Ka_9.out.step hb_10.out)
    have Kx_10 := hid (Kx_9.out.step hb_10.out)
    have Lx_10 := hid (Lx_9.out.step hb_10.out)
    have Nt_10 := hid (Nt_9.out.step hb_10.out)
    have Ng_10 := hid (Ng_9.out.step hb_10.out)
    have B_10 := hid (B_9.out.trans (hb_10.out.mono (by omega)))
    have z_10 : u9.heap.size ≤ u10.heap.size := hb_10.out.size
    clear Ka_9 Kx_9 Lx_9 Nt_9 Ng_9 B_9
    clear hb_10
    clear hq
    clear Lx_10
    clear Kx_10
    go_wp2_with fail
    refine (markIntS_lv 1 _ Ng_10.out (by omega) (by omega) (by omega)).mono ?_
    rintro e u11 ⟨rfl, hL, hG, -⟩
    have hK : Kp (fun b => u5.heap.size ≤ b ∧ b < u6.heap.size) u10 u11 := ((Kp.refl (fun b => (Value.slice Ag M.length cg).ownBlock = some b) _).grown hG (fun j e => .inr e)).mono (fun b hb => ⟨(Ng_10.out.1.1.lt b hb).1, Ng_10.out.1.2 b hb⟩)
    have hk_11 := hid hK
    have z_11 : u10.heap.size ≤ u11.heap.size := hk_11.out.size
    have Ka_11 := hid (Ka_10.out.kp hk_11.out (fun (h : u5.heap.size ≤ w.heap.size ∧ w.heap.size < u6.heap.size) => by omega))
    have Nt_11 := hid (Nt_10.out.kp hk_11.out (fun b h1 h2 (h3 : u5.heap.size ≤ b ∧ b < u6.heap.size) => by omega))
    have B_11 := hid (B_10.out.trans (hk_11.out.base (by omega) (fun b (h : u5.heap.size ≤ b ∧ b < u6.heap.size) => by omega)))
    clear Ka_10 Nt_10 Ng_10 B_10
    clear hk_11
    have Ng_11 := hid hL
    clear hL hG hK
    have gm : ¬ (1 + (M.length : Int) < 0) := by omega
    go_wp2_with fail
    refine (heldIntS_any 1 _ Ng_11.out.at_ (by omega) (by omega) (by omega)).mono ?_
    rintro e w_ ⟨rfl, rfl⟩
    obtain ⟨qa0, qa1, qa2⟩ := Ka_11.out.tri
    go_wp2_with fail
    refine (toTxn_any i _ ((Reads.below hx1.out B_11.out).more B_11.out.size) (hx2.out.below B_11.out) hnn hmm).mono ?_
    rintro e u12 ⟨Ay, cy, By, dy, rfl, oy, hb⟩
    clear qa0 qa1 qa2
    have hb_12 := hid hb
    have Ka_12 := hid (Ka_11.out.step hb_12.out)
    have Nt_12 := hid (Nt_11.out.step hb_12.out)
    have Ng_12 := hid (Ng_11.out.step hb_12.out)
    have B_12 := hid (B_11.out.trans (hb_12.out.mono (by omega)))
    have z_12 : u11.heap.size ≤ u12.heap.size := hb_12.out.size
    clear Ka_11 Nt_11 Ng_11 B_11
    clear hb_12
    clear hb
    have Ly_12 := hid (Lt.of oy)
    clear oy
    go_wp2_with fail
    refine (TxnGroups_iE hR.out _ Ly_12.out.r1 Ly_12.out.r2 (by omega) (by omega)).mono ?_
    rintro e u13 ⟨Ah, ch, rfl, oh, hb⟩
    have hb_13 := hid hb
    have Ka_13 := hid (Ka_12.out.step hb_13.out)
    have Ly_13 := hid (Ly_12.out.step hb_13.out)
    have Nt_13 := hid (Nt_12.out.step hb_13.out)
    have Ng_13 := hid (Ng_12.out.step hb_13.out)
    have B_13 := hid (B_12.out.trans (hb_13.out.mono (by omega)))
    have z_13 : u12.heap.size ≤ u13.heap.size := hb_13.out.size
    clear Ka_12 Ly_12 Nt_12 Ng_12 B_12
    clear hb_13
    clear hb
    have Nh_13 := hid (Lv.ofI oh)
    clear oh
    clear Ly_13
    go_wp2_with fail
    refine (eqIntS_any _ Nh_13.out.at_ Nt_13.out.at_ (by omega) (by omega)).mono ?_
    rw [sameB_self]
    rintro e u14 ⟨rfl, hq⟩
    have hb_14 := hid (hq.below u13.heap.size)
    have Ka_14 := hid (Ka_13.out.step hb_14.out)
    have Nt_14 := hid (Nt_13.out.step hb_14.out)
    have Ng_14 := hid (Ng_13.out.step hb_14.out)
    have Nh_14 := hid (Nh_13.out.step hb_14.out)
    have B_14 := hid (B_13.out.trans (hb_14.out.mono (by omega)))
    have z_14 : u13.heap.size ≤ u14.heap.size := hb_14.out.size
    clear Ka_13 Nt_13 Ng_13 Nh_13 B_13
    clear hb_14
    clear hq
    go_wp2_with fail
    refine (heldIntS_any 1 _ Ng_14.out.at_ (by omega) (by omega) (by omega)).mono ?_
    rintro e w_ ⟨rfl, rfl⟩
    go_wp2
    go_ret
    exact ⟨rfl, B_14.out⟩
  · have hz : (if gs.length + xs.length ≤ 1048576 then 1048576 - (gs.length : Int) - (xs.length : Int) else -1) = -1 := if_neg hbig
    replace hz := hid hz
    obtain ⟨qa0, qa1, qa2⟩ := Ka_0.out.tri
    go_enter Try.func5, Try.ntmps5
    go_upto_region 2 with (fail)
    rw [hu0.out]
    go_wp2_with fail
    refine (szTxn_any i _ (by omega) (by omega) hz.out).mono ?_
    rintro e w1 ⟨rfl, hb⟩
    have hB := hid (B_0.out.trans (hb.mono (by omega)))
    clear hb
    go_wp2
    go_ret
    exact ⟨rfl, hB.out⟩

end Go.Proofs.Ythnkilacknoklaa
