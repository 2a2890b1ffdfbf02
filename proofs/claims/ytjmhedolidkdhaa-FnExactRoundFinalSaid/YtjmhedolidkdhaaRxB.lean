/-
  The walks of the exact laws of RoundValid, RoundFinal: the law returns true and writes nothing that was there. No condition.
-/
import Derived.Test.YtjmhedolidkdhaaRxA
import Derived.Test.YtjmhedolidkdhaaRmF
import Derived.Deep.CutBlock
import Derived.Deep.RegionLaw
import Derived.Deep.RegionHeld3
import Derived.Deep.DeepCutAuto
namespace Go.Proofs.Ytjmhedolidkdhaa
open Go.RowKit
set_option linter.unusedVariables false
set_option linter.unusedSimpArgs false

set_option maxRecDepth 100000 in
set_option maxHeartbeats 16000000 in
theorem exRoundValid {n c m d : Nat} {A B : Option Addr} {gs : List Int} {xs : List St} (i  : Int) (w : World) (h1 : RdI w w.heap.size A n gs) (hn : n ≤ maxLen) (h2 : RdA w B m xs) (hm : m ≤ maxLen) :
    Calls Try.prog 4 #[rnV i (.slice A n c) (.slice B m d)] w fun e w' => e = .returned (.bool true) ∧ Below w.heap.size w w' := by
  unfold maxLen at hn hm
  obtain rfl := h1.len
  obtain rfl := h2.1
  have hx1 := hid h1
  have hx2 := hid h2
  clear h1 h2
  obtain ⟨u0, hu0⟩ : ∃ W, w.alloc (.cells #[.int .i64 i, .slice A gs.length c, .slice B xs.length d] 36) = W := ⟨_, rfl⟩
  have B_0 := hid (show Below w.heap.size w u0 by rw [← hu0]; exact below1 _ _)
  have Ka_0 := hid (show Cs u0 w.heap.size 36 #[.int .i64 i, .slice A gs.length c, .slice B xs.length d] by rw [← hu0]; exact Cs.new _ _ _)
  have ya_0 : w.heap.size < u0.heap.size := Ka_0.out.lt
  replace hu0 := hid hu0
  by_cases hbig : gs.length + xs.length ≤ 1048576
  · have hz : (if gs.length + xs.length ≤ 1048576 then 1048576 - (gs.length : Int) - (xs.length : Int) else -1) = 1048576 - (gs.length : Int) - (xs.length : Int) := if_pos hbig
    have hnn : gs.length < 1099511627776 := by omega
    have hmm : xs.length < 1099511627776 := by omega
    have gz : ¬ (1048576 - (gs.length : Int) - (xs.length : Int) < 0) := by omega
    replace hz := hid hz
    obtain ⟨R, hR⟩ : ∃ R, rvB i gs xs = R := ⟨_, rfl⟩
    replace hR := hid hR
    go_enter Try.func4, Try.ntmps4
    go_upto_region 2 with (fail)
    rw [hu0.out]
    obtain ⟨qa0, qa1, qa2⟩ := Ka_0.out.three
    go_wp2_with fail
    refine (szRound_any i _ (by omega) (by omega) hz.out).mono ?_
    rintro e u1 ⟨rfl, hb⟩
    clear qa0 qa1 qa2
    have hb_1 := hid hb
    have Ka_1 := hid (Ka_0.out.step hb_1.out)
    have B_1 := hid (B_0.out.trans (hb_1.out.mono (by omega)))
    have z_1 : u0.heap.size ≤ u1.heap.size := hb_1.out.size
    clear Ka_0 B_0
    clear hb_1
    clear hb
    obtain ⟨qa0, qa1, qa2⟩ := Ka_1.out.three
    go_wp2_with fail
    refine (toRound_any i _ ((Reads.below hx1.out B_1.out).more B_1.out.size) (hx2.out.below B_1.out) hnn hmm).mono ?_
    rintro e u2 ⟨Ap, cp, Bp, dp, rfl, op, hb⟩
    clear qa0 qa1 qa2
    have hb_2 := hid hb
    have Ka_2 := hid (Ka_1.out.step hb_2.out)
    have B_2 := hid (B_1.out.trans (hb_2.out.mono (by omega)))
    have z_2 : u1.heap.size ≤ u2.heap.size := hb_2.out.size
    clear Ka_1 B_1
    clear hb_2
    clear hb
    have Lp_2 := hid (Lr.of op)
    clear op
    go_wp2_with fail
    refine (RoundValid_spec hR.out _ (Lp_2.out.ow.rd (by omega) (by omega))).mono ?_
    rintro e u3 ⟨rfl, hb⟩
    have hb_3 := hid hb
    have Ka_3 := hid (Ka_2.out.step hb_3.out)
    have Lp_3 := hid (Lp_2.out.step hb_3.out)
    have B_3 := hid (B_2.out.trans (hb_3.out.mono (by omega)))
    have z_3 : u2.heap.size ≤ u3.heap.size := hb_3.out.size
    clear Ka_2 Lp_2 B_2
    clear hb_3
    clear hb
    clear Lp_3
    obtain ⟨qa0, qa1, qa2⟩ := Ka_3.out.three
    go_wp2_with fail
    refine (toRound_any i _ ((Reads.below hx1.out B_3.out).more B_3.out.size) (hx2.out.below B_3.out) hnn hmm).mono ?_
    rintro e u4 ⟨Ax, cx, Bx, dx, rfl, ox, hb⟩
    clear qa0 qa1 qa2
    have hb_4 := hid hb
    have Ka_4 := hid (Ka_3.out.step hb_4.out)
    have B_4 := hid (B_3.out.trans (hb_4.out.mono (by omega)))
    have z_4 : u3.heap.size ≤ u4.heap.size := hb_4.out.size
    clear Ka_3 B_3
    clear hb_4
    clear hb
    have Lx_4 := hid (Lr.of ox)
    clear ox
    go_upto_region 7 with (fail)
    obtain ⟨u5, hu⟩ : ∃ W, (u4.alloc (.cells #[.int .i64 i, .slice Ax gs.length cx, .slice Bx xs.length dx] 25)) = W := ⟨_, rfl⟩
    rw [hu]
    have hb : Below u4.heap.size u4 u5 := by rw [← hu]; exact below1 _ _
    have hcx : Cs u5 (u4.heap.size) 25 #[.int .i64 i, .slice Ax gs.length cx, .slice Bx xs.length dx] := by rw [← hu]; exact Cs.new _ _ _
    clear hu
    have hb_5 := hid hb
    have Ka_5 := hid (Ka_4.out.step hb_5.out)
    have Lx_5 := hid (Lx_4.out.step hb_5.out)
    have B_5 := hid (B_4.out.trans (hb_5.out.mono (by omega)))
    have z_5 : u4.heap.size ≤ u5.heap.size := hb_5.out.size
    clear Ka_4 Lx_4 B_4
    clear hb_5
    clear hb
    have Kx_5 := hid hcx
    have yx_5 : u4.heap.size < u5.heap.size := hcx.lt
    clear hcx
    obtain ⟨qx0, qx1, qx2⟩ := Kx_5.out.three
    go_wp2_with fail
    refine (RoundValid_impl hR.out _ (Lx_5.out.ow.rd (by omega) (by omega))).mono ?_
    rintro e u6 ⟨rfl, hb⟩
    clear qx0 qx1 qx2
    have hb_6 := hid hb
    have Ka_6 := hid (Ka_5.out.step hb_6.out)
    have Kx_6 := hid (Kx_5.out.step hb_6.out)
    have Lx_6 := hid (Lx_5.out.step hb_6.out)
    have B_6 := hid (B_5.out.trans (hb_6.out.mono (by omega)))
    have z_6 : u5.heap.size ≤ u6.heap.size := hb_6.out.size
    clear Ka_5 Kx_5 Lx_5 B_5
    clear hb_6
    clear hb
    have hbb : (R != R) = false := by cases R <;> rfl
    have hd := hid (Below.refl u6.heap.size u6).drew
    have Ka_d := hid (Ka_6.out.step hd.out)
    have Kx_d := hid (Kx_6.out.step hd.out)
    have Lx_d := hid (Lx_6.out.step hd.out)
    have B_d := hid (B_6.out.trans (hd.out.mono (by omega)))
    have z_d : u6.heap.size ≤ u6.drew.heap.size := hd.out.size
    have qe0 := And.intro Kx_d.out.three Ka_d.out.three
    have qf0 := And.intro Kx_6.out.three Ka_6.out.three
    go_wp2_with fail
    go_region_held3 (fun w' => (w'.cell? ⟨u4.heap.size, 0, none⟩ = some (.int .i64 i) ∧ w'.cell? ⟨u4.heap.size, 1, none⟩ = some (.slice Ax gs.length cx) ∧ w'.cell? ⟨u4.heap.size, 2, none⟩ = some (.slice Bx xs.length dx)) ∧ w'.cell? ⟨w.heap.size, 0, none⟩ = some (.int .i64 i) ∧ w'.cell? ⟨w.heap.size, 1, none⟩ = some (.slice A gs.length c) ∧ w'.cell? ⟨w.heap.size, 2, none⟩ = some (.slice B xs.length d))
      (first | with_reducible exact qe0 | with_reducible exact qe1 | with_reducible exact qe2 | with_reducible exact qf0 | go_keep)
      (first | (go_at_call 18; (refine (toRound_any i _ ((Reads.below hx1.out B_d.out).more B_d.out.size) (hx2.out.below B_d.out) hnn hmm).mono ?_); rintro e ud ⟨Ad, cd, Bd, dd, rfl, od, hb⟩; have Ka_e := hid (Ka_d.out.step hb); have Kx_e := hid (Kx_d.out.step hb); have Lx_e := hid (Lx_d.out.step hb); have B_e := hid (B_d.out.trans (hb.mono (by omega))); have z_e := hb.size; have Ld_e := hid (Lr.of od); have qe1 := And.intro Kx_e.out.three Ka_e.out.three; clear hb od) | (go_at_call 11; (refine (eqRound_same i _ Lx_e.out.r1 Lx_e.out.r2 Ld_e.out.r1 Ld_e.out.r2 (by omega) (by omega)).mono ?_); rintro e u7 ⟨rfl, hb⟩; have Ka_7 := hid (Ka_e.out.step hb); have Kx_7 := hid (Kx_e.out.step hb); have Lx_7 := hid (Lx_e.out.step hb); have B_7 := hid (B_e.out.trans (hb.mono (by omega))); have z_7 : u6.heap.size ≤ u7.heap.size := Nat.le_trans z_d (Nat.le_trans z_e hb.size); have qe2 := And.intro Kx_7.out.three Ka_7.out.three; clear hb))
    clear qe0 qf0 qe1 qe2 hd B_d B_e Ld_e z_d z_e
    clear Ka_d Kx_d Lx_d
    clear Ka_e Kx_e Lx_e
    clear Ka_6 Kx_6 Lx_6 B_6
    go_wp2
    go_ret
    exact ⟨rfl, B_7.out⟩
  · have hz : (if gs.length + xs.length ≤ 1048576 then 1048576 - (gs.length : Int) - (xs.length : Int) else -1) = -1 := if_neg hbig
    replace hz := hid hz
    obtain ⟨qa0, qa1, qa2⟩ := Ka_0.out.three
    go_enter Try.func4, Try.ntmps4
    go_upto_region 2 with (fail)
    rw [hu0.out]
    go_wp2_with fail
    refine (szRound_any i _ (by omega) (by omega) hz.out).mono ?_
    rintro e w1 ⟨rfl, hb⟩
    have hB := hid (B_0.out.trans (hb.mono (by omega)))
    clear hb
    go_wp2
    go_ret
    exact ⟨rfl, hB.out⟩

set_option maxRecDepth 100000 in
set_option maxHeartbeats 16000000 in
theorem exRoundFinal {n c m d : Nat} {A B : Option Addr} {gs : List Int} {xs : List St} (i  : Int) (w : World) (h1 : RdI w w.heap.size A n gs) (hn : n ≤ maxLen) (h2 : RdA w B m xs) (hm : m ≤ maxLen) :
    Calls Try.prog 7 #[rnV i (.slice A n c) (.slice B m d)] w fun e w' => e = .returned (.bool true) ∧ Below w.heap.size w w' := by
  unfold maxLen at hn hm
  obtain rfl := h1.len
  obtain rfl := h2.1
  have hx1 := hid h1
  have hx2 := hid h2
  clear h1 h2
  obtain ⟨u0, hu0⟩ : ∃ W, w.alloc (.cells #[.int .i64 i, .slice A gs.length c, .slice B xs.length d] 36) = W := ⟨_, rfl⟩
  have B_0 := hid (show Below w.heap.size w u0 by rw [← hu0]; exact below1 _ _)
  have Ka_0 := hid (show Cs u0 w.heap.size 36 #[.int .i64 i, .slice A gs.length c, .slice B xs.length d] by rw [← hu0]; exact Cs.new _ _ _)
  have ya_0 : w.heap.size < u0.heap.size := Ka_0.out.lt
  replace hu0 := hid hu0
  by_cases hbig : gs.length + xs.length ≤ 1048576
  · have hz : (if gs.length + xs.length ≤ 1048576 then 1048576 - (gs.length : Int) - (xs.length : Int) else -1) = 1048576 - (gs.length : Int) - (xs.length : Int) := if_pos hbig
    have hnn : gs.length < 1099511627776 := by omega
    have hmm : xs.length < 1099511627776 := by omega
    have gz : ¬ (1048576 - (gs.length : Int) - (xs.length : Int) < 0) := by omega
    replace hz := hid hz
    obtain ⟨ft, fg, hF⟩ : ∃ ft fg, fnR i gs xs = (ft, fg) := ⟨_, _, rfl⟩
    obtain ⟨ok, hO⟩ : ∃ ok, fnB i gs xs = ok := ⟨_, rfl⟩
    replace hF := hid hF
    replace hO := hid hO
    go_enter Try.func7, Try.ntmps7
    go_upto_region 2 with (fail)
    rw [hu0.out]
    obtain ⟨qa0, qa1, qa2⟩ := Ka_0.out.three
    go_wp2_with fail
    refine (szRound_any i _ (by omega) (by omega) hz.out).mono ?_
    rintro e u1 ⟨rfl, hb⟩
    clear qa0 qa1 qa2
    have hb_1 := hid hb
    have Ka_1 := hid (Ka_0.out.step hb_1.out)
    have B_1 := hid (B_0.out.trans (hb_1.out.mono (by omega)))
    have z_1 : u0.heap.size ≤ u1.heap.size := hb_1.out.size
    clear Ka_0 B_0
    clear hb_1
    clear hb
    obtain ⟨qa0, qa1, qa2⟩ := Ka_1.out.three
    go_wp2_with fail
    refine (toRound_any i _ ((Reads.below hx1.out B_1.out).more B_1.out.size) (hx2.out.below B_1.out) hnn hmm).mono ?_
    rintro e u2 ⟨Ap, cp, Bp, dp, rfl, op, hb⟩
    clear qa0 qa1 qa2
    have hb_2 := hid hb
    have Ka_2 := hid (Ka_1.out.step hb_2.out)
    have B_2 := hid (B_1.out.trans (hb_2.out.mono (by omega)))
    have z_2 : u1.heap.size ≤ u2.heap.size := hb_2.out.size
    clear Ka_1 B_1
    clear hb_2
    clear hb
    have Lp_2 := hid (Lr.of op)
    clear op
    go_wp2_with fail
    refine (RoundFinal_spec hF.out hO.out _ (Lp_2.out.ow.rd (by omega) (by omega))).mono ?_
    rintro e u3 ⟨rfl, hb⟩
    have hb_3 := hid hb
    have Ka_3 := hid (Ka_2.out.step hb_3.out)
    have Lp_3 := hid (Lp_2.out.step hb_3.out)
    have B_3 := hid (B_2.out.trans (hb_3.out.mono (by omega)))
    have z_3 : u2.heap.size ≤ u3.heap.size := hb_3.out.size
    clear Ka_2 Lp_2 B_2
    clear hb_3
    clear hb
    clear Lp_3
    go_upto_region 6 with (fail)
    obtain ⟨u4, hu⟩ : ∃ W, (u3.alloc (.cells #[.int .i64 ft, .int .i64 fg] 44)) = W := ⟨_, rfl⟩
    rw [hu]
    have hb : Below u3.heap.size u3 u4 := by rw [← hu]; exact below1 _ _
    have hcv : Cs u4 (u3.heap.size) 44 #[.int .i64 ft, .int .i64 fg] := by rw [← hu]; exact Cs.new _ _ _
    clear hu
    have hb_4 := hid hb
    have Ka_4 := hid (Ka_3.out.step hb_4.out)
    have B_4 := hid (B_3.out.trans (hb_4.out.mono (by omega)))
    have z_4 : u3.heap.size ≤ u4.heap.size := hb_4.out.size
    clear Ka_3 B_3
    clear hb_4
    clear hb
    have Kv_4 := hid hcv
    have yv_4 : u3.heap.size < u4.heap.size := hcv.lt
    clear hcv
    obtain ⟨qa0, qa1, qa2⟩ := Ka_4.out.three
    go_wp2_with fail
    refine (toRound_any i _ ((Reads.below hx1.out B_4.out).more B_4.out.size) (hx2.out.below B_4.out) hnn hmm).mono ?_
    rintro e u5 ⟨Ax, cx, Bx, dx, rfl, ox, hb⟩
    clear qa0 qa1 qa2
    have hb_5 := hid hb
    have Ka_5 := hid (Ka_4.out.step hb_5.out)
    have Kv_5 := hid (Kv_4.out.step hb_5.out)
    have B_5 := hid (B_4.out.trans (hb_5.out.mono (by omega)))
    have z_5 : u4.heap.size ≤ u5.heap.size := hb_5.out.size
    clear Ka_4 Kv_4 B_4
    clear hb_5
    clear hb
    have Lx_5 := hid (Lr.of ox)
    clear ox
    go_upto_region 7 with (fail)
    obtain ⟨u6, hu⟩ : ∃ W, (u5.alloc (.cells #[.int .i64 i, .slice Ax gs.length cx, .slice Bx xs.length dx] 25)) = W := ⟨_, rfl⟩
    rw [hu]
    have hb : Below u5.heap.size u5 u6 := by rw [← hu]; exact below1 _ _
    have hcx : Cs u6 (u5.heap.size) 25 #[.int .i64 i, .slice Ax gs.length cx, .slice Bx xs.length dx] := by rw [← hu]; exact Cs.new _ _ _
    clear hu
    have hb_6 := hid hb
    have Ka_6 := hid (Ka_5.out.step hb_6.out)
    have Kv_6 := hid (Kv_5.out.step hb_6.out)
    have Lx_6 := hid (Lx_5.out.step hb_6.out)
    have B_6 := hid (B_5.out.trans (hb_6.out.mono (by omega)))
    have z_6 : u5.heap.size ≤ u6.heap.size := hb_6.out.size
    clear Ka_5 Kv_5 Lx_5 B_5
    clear hb_6
    clear hb
    have Kx_6 := hid hcx
    have yx_6 : u5.heap.size < u6.heap.size := hcx.lt
    clear hcx
    obtain ⟨qx0, qx1, qx2⟩ := Kx_6.out.three
    go_wp2_with fail
    refine (RoundFinal_impl hF.out hO.out _ (Lx_6.out.ow.rd (by omega) (by omega))).mono ?_
    rintro e u7 ⟨rfl, hb⟩
    clear qx0 qx1 qx2
    have hb_7 := hid hb
    have Ka_7 := hid (Ka_6.out.step hb_7.out)
    have Kv_7 := hid (Kv_6.out.step hb_7.out)
    have Kx_7 := hid (Kx_6.out.step hb_7.out)
    have Lx_7 := hid (Lx_6.out.step hb_7.out)
    have B_7 := hid (B_6.out.trans (hb_7.out.mono (by omega)))
    have z_7 : u6.heap.size ≤ u7.heap.size := hb_7.out.size
    clear Ka_6 Kv_6 Kx_6 Lx_6 B_6
    clear hb_7
    clear hb
    go_upto_region 8 with (fail)
    obtain ⟨u8, hu⟩ : ∃ W, (u7.alloc (.cells #[.int .i64 ft, .int .i64 fg] 44)) = W := ⟨_, rfl⟩
    rw [hu]
    have hb : Below u7.heap.size u7 u8 := by rw [← hu]; exact below1 _ _
    have hcg : Cs u8 (u7.heap.size) 44 #[.int .i64 ft, .int .i64 fg] := by rw [← hu]; exact Cs.new _ _ _
    clear hu
    have hb_8 := hid hb
    have Ka_8 := hid (Ka_7.out.step hb_8.out)
    have Kv_8 := hid (Kv_7.out.step hb_8.out)
    have Kx_8 := hid (Kx_7.out.step hb_8.out)
    have Lx_8 := hid (Lx_7.out.step hb_8.out)
    have B_8 := hid (B_7.out.trans (hb_8.out.mono (by omega)))
    have z_8 : u7.heap.size ≤ u8.heap.size := hb_8.out.size
    clear Ka_7 Kv_7 Kx_7 Lx_7 B_7
    clear hb_8
    clear hb
    have Kg_8 := hid hcg
    have yg_8 : u7.heap.size < u8.heap.size := hcg.lt
    clear hcg
    obtain ⟨qg0, qg1, -, -⟩ := Kg_8.out.two
    obtain ⟨qv0, qv1, -, -⟩ := Kv_8.out.two
    go_wp2_with fail
    refine (eqStamp_same ft fg _).mono ?_
    rintro e u9 ⟨rfl, hb⟩
    clear qg0 qg1 qv0 qv1
    have hb_9 := hid hb
    have Ka_9 := hid (Ka_8.out.step hb_9.out)
    have Kv_9 := hid (Kv_8.out.step hb_9.out)
    have Kx_9 := hid (Kx_8.out.step hb_9.out)
    have Kg_9 := hid (Kg_8.out.step hb_9.out)
    have Lx_9 := hid (Lx_8.out.step hb_9.out)
    have B_9 := hid (B_8.out.trans (hb_9.out.mono (by omega)))
    have z_9 : u8.heap.size ≤ u9.heap.size := hb_9.out.size
    clear Ka_8 Kv_8 Kx_8 Kg_8 Lx_8 B_8
    clear hb_9
    clear hb
    have hbb : (ok != ok) = false := by cases ok <;> rfl
    have hd := hid (Below.refl u9.heap.size u9).drew
    have Ka_d := hid (Ka_9.out.step hd.out)
    have Kv_d := hid (Kv_9.out.step hd.out)
    have Kx_d := hid (Kx_9.out.step hd.out)
    have Kg_d := hid (Kg_9.out.step hd.out)
    have Lx_d := hid (Lx_9.out.step hd.out)
    have B_d := hid (B_9.out.trans (hd.out.mono (by omega)))
    have z_d : u9.heap.size ≤ u9.drew.heap.size := hd.out.size
    have qe0 := And.intro Kx_d.out.three Ka_d.out.three
    have qf0 := And.intro Kx_9.out.three Ka_9.out.three
    go_wp2_with fail
    go_region_held3 (fun w' => (w'.cell? ⟨u5.heap.size, 0, none⟩ = some (.int .i64 i) ∧ w'.cell? ⟨u5.heap.size, 1, none⟩ = some (.slice Ax gs.length cx) ∧ w'.cell? ⟨u5.heap.size, 2, none⟩ = some (.slice Bx xs.length dx)) ∧ w'.cell? ⟨w.heap.size, 0, none⟩ = some (.int .i64 i) ∧ w'.cell? ⟨w.heap.size, 1, none⟩ = some (.slice A gs.length c) ∧ w'.cell? ⟨w.heap.size, 2, none⟩ = some (.slice B xs.length d))
      (first | with_reducible exact qe0 | with_reducible exact qe1 | with_reducible exact qe2 | with_reducible exact qf0 | go_keep)
      (first | (go_at_call 18; (refine (toRound_any i _ ((Reads.below hx1.out B_d.out).more B_d.out.size) (hx2.out.below B_d.out) hnn hmm).mono ?_); rintro e ud ⟨Ad, cd, Bd, dd, rfl, od, hb⟩; have Ka_e := hid (Ka_d.out.step hb); have Kv_e := hid (Kv_d.out.step hb); have Kx_e := hid (Kx_d.out.step hb); have Kg_e := hid (Kg_d.out.step hb); have Lx_e := hid (Lx_d.out.step hb); have B_e := hid (B_d.out.trans (hb.mono (by omega))); have z_e := hb.size; have Ld_e := hid (Lr.of od); have qe1 := And.intro Kx_e.out.three Ka_e.out.three; clear hb od) | (go_at_call 11; (refine (eqRound_same i _ Lx_e.out.r1 Lx_e.out.r2 Ld_e.out.r1 Ld_e.out.r2 (by omega) (by omega)).mono ?_); rintro e u10 ⟨rfl, hb⟩; have Ka_10 := hid (Ka_e.out.step hb); have Kv_10 := hid (Kv_e.out.step hb); have Kx_10 := hid (Kx_e.out.step hb); have Kg_10 := hid (Kg_e.out.step hb); have Lx_10 := hid (Lx_e.out.step hb); have B_10 := hid (B_e.out.trans (hb.mono (by omega))); have z_10 : u9.heap.size ≤ u10.heap.size := Nat.le_trans z_d (Nat.le_trans z_e hb.size); have qe2 := And.intro Kx_10.out.three Ka_10.out.three; clear hb))
    clear qe0 qf0 qe1 qe2 hd B_d B_e Ld_e z_d z_e
    clear Ka_d Kv_d Kx_d Kg_d Lx_d
    clear Ka_e Kv_e Kx_e Kg_e Lx_e
    clear Ka_9 Kv_9 Kx_9 Kg_9 Lx_9 B_9
    go_wp2
    go_ret
    exact ⟨rfl, B_10.out⟩
  · have hz : (if gs.length + xs.length ≤ 1048576 then 1048576 - (gs.length : Int) - (xs.length : Int) else -1) = -1 := if_neg hbig
    replace hz := hid hz
    obtain ⟨qa0, qa1, qa2⟩ := Ka_0.out.three
    go_enter Try.func7, Try.ntmps7
    go_upto_region 2 with (fail)
    rw [hu0.out]
    go_wp2_with fail
    refine (szRound_any i _ (by omega) (by omega) hz.out).mono ?_
    rintro e w1 ⟨rfl, hb⟩
    have hB := hid (B_0.out.trans (hb.mono (by omega)))
    clear hb
    go_wp2
    go_ret
    exact ⟨rfl, hB.out⟩

end Go.Proofs.Ytjmhedolidkdhaa
