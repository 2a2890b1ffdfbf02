/-
  The walks of the exact laws of CreditsGive: the law returns true and writes nothing that was there. No condition.
-/
import Derived.Test.YtgeihcbiahnnaaaCxH
import Derived.Test.YtgeihcbiahnnaaaCeN
import Derived.Test.YtgeihcbiahnnaaaCdJ
import Derived.Deep.CutBlock
import Derived.Deep.RegionLaw
import Derived.Deep.RegionHeld3
import Derived.Deep.DeepCutAuto
namespace Go.Proofs.Ytgeihcbiahnnaaa
open Go.RowKit
set_option linter.unusedVariables false
set_option linter.unusedSimpArgs false

theorem give_sm {c o : Cr} {s : Int} {ok : Bool} (h : giveR c s = (o, ok)) (hs : Sm c) : Sm o := by
  cases ok with
  | true =>
    obtain ⟨S, q⟩ := give_ok h
    exact Sm.of q.valid
  | false =>
    rcases give_no h with rfl | ⟨S, -, -, -, rfl⟩
    · exact Sm.zero
    · exact hs

theorem CreditsGive_sx {A1 A2 : Option Addr} {n1 n2 c1 c2 : Nat} {c o : Cr} {s : Int} {ok : Bool} (h : giveR c s = (o, ok)) (w : World) (hr : RdC w A1 n1 A2 n2 c) :
    Calls Try.prog 23 #[crV (.slice A1 n1 c1) (.slice A2 n2 c2), .int .i64 s] w (CrPostX2 o ok w) := (CreditsGive_spec s w hr).mono fun e w' q => q.x h

theorem CreditsGive_ix {A1 A2 : Option Addr} {n1 n2 c1 c2 : Nat} {c o : Cr} {s : Int} {ok : Bool} (h : giveR c s = (o, ok)) (w : World) (hr : RdC w A1 n1 A2 n2 c) :
    Calls Try.prog 24 #[crV (.slice A1 n1 c1) (.slice A2 n2 c2), .int .i64 s] w (CrPostX2 o ok w) := (CreditsGive_impl s w hr).mono fun e w' q => q.x h

set_option maxRecDepth 100000 in
set_option maxHeartbeats 16000000 in
theorem exCreditsGive {n c m d : Nat} {A B : Option Addr} {cr : Cr} (s : Int) (w : World) (hx : RdCX w A n B m cr) (hn : n ≤ maxLen) (hm : m ≤ maxLen) (hs : ∀ y ∈ cr.hs, y.1.length ≤ maxLen) :
    Calls Try.prog 6 #[crV (.slice A n c) (.slice B m d), .int .i64 s] w fun e w' => e = .returned (.bool true) ∧ Below w.heap.size w w' := by
  unfold maxLen at hn hm hs
  have hs' := hid (show ∀ y ∈ cr.hs, y.1.length ≤ 9223372036854775807 from fun y hy => by have := hs y hy; omega)
  replace hx := hid hx
  obtain ⟨u0, hu0⟩ : ∃ W, w.alloc (.cells #[.slice A n c, .slice B m d] 36) = W := ⟨_, rfl⟩
  have B_0 := hid (show Below w.heap.size w u0 by rw [← hu0]; exact below1 _ _)
  have Ka_0 := hid (show Cs u0 w.heap.size 36 #[.slice A n c, .slice B m d] by rw [← hu0]; exact Cs.new _ _ _)
  have ya_0 : w.heap.size < u0.heap.size := Ka_0.out.lt
  replace hu0 := hid hu0
  clear hs
  obtain ⟨o, ok, hR⟩ : ∃ o ok, giveR cr s = (o, ok) := ⟨_, _, rfl⟩
  replace hR := hid hR
  go_enter Try.func6, Try.ntmps6
  go_upto_region 2 with (fail)
  rw [hu0.out]
  obtain ⟨qa0, qa1⟩ := Ka_0.out.c2
  go_wp2_with fail
  refine (szCredits_any _ (hx.out.below B_0.out) (by omega) (by omega) hs'.out).mono ?_
  rintro e u1 ⟨⟨r, rfl, hr⟩, hb⟩
  clear qa0 qa1
  have hb_1 := hid hb
  have Ka_1 := hid (Ka_0.out.step hb_1.out)
  have B_1 := hid (B_0.out.trans (hb_1.out.mono (by omega)))
  have z_1 : u0.heap.size ≤ u1.heap.size := hb_1.out.size
  clear Ka_0 B_0
  clear hb_1
  clear hb
  rcases hr with rfl | ⟨r0, r1, hsm⟩
  · go_wp2
    go_ret
    exact ⟨rfl, B_1.out⟩
  · have sm := hid hsm
    have gz : ¬ (r < 0) := by omega
    clear hsm
    have so := hid (give_sm hR.out sm.out)
    have q1 := so.out.f
    have q2 := so.out.h
    have hbb : (ok != ok) = false := by cases ok <;> rfl
    obtain ⟨z, hz⟩ : ∃ z, endC 1 o = z := ⟨_, rfl⟩
    have hz0 : ¬ (z < 0) := by rw [← hz]; have := (endC_bd (k := 1) (by omega) so.out).1; omega
    have hzz : (z != z) = false := by simp
    replace hz := hid hz
    obtain ⟨y, hzx⟩ : ∃ y, endC 1 cr = y := ⟨_, rfl⟩
    have hy0 : ¬ (y < 0) := by rw [← hzx]; have := (endC_bd (k := 1) (by omega) sm.out).1; omega
    replace hzx := hid hzx
    obtain ⟨qa0, qa1⟩ := Ka_1.out.c2
    go_wp2_with fail
    refine (toCredits_any _ (hx.out.below B_1.out) sm.out).mono ?_
    rintro e u2 ⟨Ap, cp, Bp, dp, vp, rfl, op, hb⟩
    clear qa0 qa1
    have hb_2 := hid hb
    have Ka_2 := hid (Ka_1.out.step hb_2.out)
    have B_2 := hid (B_1.out.trans (hb_2.out.mono (by omega)))
    have z_2 : u1.heap.size ≤ u2.heap.size := hb_2.out.size
    clear Ka_1 B_1
    clear hb_2
    clear hb
    have Lp_2 := hid (Lc.of op)
    clear op
    go_wp2_with fail
    refine (CreditsGive_sx hR.out _ (Lp_2.out.rd sm.out)).mono ?_
    rintro e u3 ⟨Aw, cw, Bw, dw, vw, rfl, ow, hb⟩
    have hb_3 := hid hb
    have Ka_3 := hid (Ka_2.out.step hb_3.out)
    have Lp_3 := hid (Lp_2.out.step hb_3.out)
    have B_3 := hid (B_2.out.trans (hb_3.out.mono (by omega)))
    have z_3 : u2.heap.size ≤ u3.heap.size := hb_3.out.size
    clear Ka_2 Lp_2 B_2
    clear hb_3
    clear hb
    have Lw_3 := hid (Lc.of ow)
    clear ow
    clear Lp_3
    go_upto_region 6 with (fail)
    obtain ⟨u4, hu⟩ : ∃ W, (u3.alloc (.cells #[.slice Aw o.fr.length cw, .slice Bw o.hs.length dw] 25)) = W := ⟨_, rfl⟩
    rw [hu]
    have hb : Below u3.heap.size u3 u4 := by rw [← hu]; exact below1 _ _
    have hcw : Cs u4 (u3.heap.size) 25 #[.slice Aw o.fr.length cw, .slice Bw o.hs.length dw] := by rw [← hu]; exact Cs.new _ _ _
    clear hu
    have hb_4 := hid hb
    have Ka_4 := hid (Ka_3.out.step hb_4.out)
    have Lw_4 := hid (Lw_3.out.step hb_4.out)
    have B_4 := hid (B_3.out.trans (hb_4.out.mono (by omega)))
    have z_4 : u3.heap.size ≤ u4.heap.size := hb_4.out.size
    clear Ka_3 Lw_3 B_3
    clear hb_4
    clear hb
    have Kw_4 := hid hcw
    have yw_4 : u3.heap.size < u4.heap.size := hcw.lt
    clear hcw
    obtain ⟨qa0, qa1⟩ := Ka_4.out.c2
    go_wp2_with fail
    refine (toCredits_any _ (hx.out.below B_4.out) sm.out).mono ?_
    rintro e u5 ⟨Ax, cx, Bx, dx, vx, rfl, ox, hb⟩
    clear qa0 qa1
    have hb_5 := hid hb
    have Ka_5 := hid (Ka_4.out.step hb_5.out)
    have Kw_5 := hid (Kw_4.out.step hb_5.out)
    have Lw_5 := hid (Lw_4.out.step hb_5.out)
    have B_5 := hid (B_4.out.trans (hb_5.out.mono (by omega)))
    have z_5 : u4.heap.size ≤ u5.heap.size := hb_5.out.size
    clear Ka_4 Kw_4 Lw_4 B_4
    clear hb_5
    clear hb
    have Lx_5 := hid (Lc.of ox)
    clear ox
    go_upto_region 7 with (fail)
    obtain ⟨u6, hu⟩ : ∃ W, (u5.alloc (.cells #[.slice Ax cr.fr.length cx, .slice Bx cr.hs.length dx] 25)) = W := ⟨_, rfl⟩
    rw [hu]
    have hb : Below u5.heap.size u5 u6 := by rw [← hu]; exact below1 _ _
    have hcx : Cs u6 (u5.heap.size) 25 #[.slice Ax cr.fr.length cx, .slice Bx cr.hs.length dx] := by rw [← hu]; exact Cs.new _ _ _
    clear hu
    have hb_6 := hid hb
    have Ka_6 := hid (Ka_5.out.step hb_6.out)
    have Kw_6 := hid (Kw_5.out.step hb_6.out)
    have Lw_6 := hid (Lw_5.out.step hb_6.out)
    have Lx_6 := hid (Lx_5.out.step hb_6.out)
    have B_6 := hid (B_5.out.trans (hb_6.out.mono (by omega)))
    have z_6 : u5.heap.size ≤ u6.heap.size := hb_6.out.size
    clear Ka_5 Kw_5 Lw_5 Lx_5 B_5
    clear hb_6
    clear hb
    have Kx_6 := hid hcx
    have yx_6 : u5.heap.size < u6.heap.size := hcx.lt
    clear hcx
    obtain ⟨qx0, qx1⟩ := Kx_6.out.c2
    go_wp2_with fail
    refine (CreditsGive_ix hR.out _ (Lx_6.out.rd sm.out)).mono ?_
    rintro e u7 ⟨Ag, cg, Bg, dg, vg, rfl, og, hb⟩
    clear qx0 qx1
    have hb_7 := hid hb
    have Ka_7 := hid (Ka_6.out.step hb_7.out)
    have Kw_7 := hid (Kw_6.out.step hb_7.out)
    have Kx_7 := hid (Kx_6.out.step hb_7.out)
    have Lw_7 := hid (Lw_6.out.step hb_7.out)
    have Lx_7 := hid (Lx_6.out.step hb_7.out)
    have B_7 := hid (B_6.out.trans (hb_7.out.mono (by omega)))
    have z_7 : u6.heap.size ≤ u7.heap.size := hb_7.out.size
    clear Ka_6 Kw_6 Kx_6 Lw_6 Lx_6 B_6
    clear hb_7
    clear hb
    have Lg_7 := hid (Lc.of og)
    clear og
    go_upto_region 8 with (fail)
    obtain ⟨u8, hu⟩ : ∃ W, (u7.alloc (.cells #[.slice Ag o.fr.length cg, .slice Bg o.hs.length dg] 25)) = W := ⟨_, rfl⟩
    rw [hu]
    have hb : Below u7.heap.size u7 u8 := by rw [← hu]; exact below1 _ _
    have hcg : Cs u8 (u7.heap.size) 25 #[.slice Ag o.fr.length cg, .slice Bg o.hs.length dg] := by rw [← hu]; exact Cs.new _ _ _
    clear hu
    have hb_8 := hid hb
    have Ka_8 := hid (Ka_7.out.step hb_8.out)
    have Kw_8 := hid (Kw_7.out.step hb_8.out)
    have Kx_8 := hid (Kx_7.out.step hb_8.out)
    have Lw_8 := hid (Lw_7.out.step hb_8.out)
    have Lx_8 := hid (Lx_7.out.step hb_8.out)
    have Lg_8 := hid (Lg_7.out.step hb_8.out)
    have B_8 := hid (B_7.out.trans (hb_8.out.mono (by omega)))
    have z_8 : u7.heap.size ≤ u8.heap.size := hb_8.out.size
    clear Ka_7 Kw_7 Kx_7 Lw_7 Lx_7 Lg_7 B_7
    clear hb_8
    clear hb
    have Kg_8 := hid hcg
    have yg_8 : u7.heap.size < u8.heap.size := hcg.lt
    clear hcg
    obtain ⟨qg0, qg1⟩ := Kg_8.out.c2
    obtain ⟨qw0, qw1⟩ := Kw_8.out.c2
    go_wp2_with fail
    refine (eqCredits_same _ (Lg_8.out.rd so.out) (Lw_8.out.rd so.out)).mono ?_
    rintro e u9 ⟨rfl, hb⟩
    clear qg0 qg1 qw0 qw1
    have hb_9 := hid hb
    have Ka_9 := hid (Ka_8.out.step hb_9.out)
    have Kw_9 := hid (Kw_8.out.step hb_9.out)
    have Kx_9 := hid (Kx_8.out.step hb_9.out)
    have Kg_9 := hid (Kg_8.out.step hb_9.out)
    have Lw_9 := hid (Lw_8.out.step hb_9.out)
    have Lx_9 := hid (Lx_8.out.step hb_9.out)
    have Lg_9 := hid (Lg_8.out.step hb_9.out)
    have B_9 := hid (B_8.out.trans (hb_9.out.mono (by omega)))
    have z_9 : u8.heap.size ≤ u9.heap.size := hb_9.out.size
    clear Ka_8 Kw_8 Kx_8 Kg_8 Lw_8 Lx_8 Lg_8 B_8
    clear hb_9
    clear hb
    have hd := hid (Below.refl u9.heap.size u9).drew
    have Ka_d := hid (Ka_9.out.step hd.out)
    have Kw_d := hid (Kw_9.out.step hd.out)
    have Kx_d := hid (Kx_9.out.step hd.out)
    have Kg_d := hid (Kg_9.out.step hd.out)
    have Lw_d := hid (Lw_9.out.step hd.out)
    have Lx_d := hid (Lx_9.out.step hd.out)
    have Lg_d := hid (Lg_9.out.step hd.out)
    have B_d := hid (B_9.out.trans (hd.out.mono (by omega)))
    have z_d : u9.heap.size ≤ u9.drew.heap.size := hd.out.size
    have qe0 := And.intro Kx_d.out.c2 Ka_d.out.c2
    have qf0 := And.intro Kx_9.out.c2 Ka_9.out.c2
    go_wp2_with fail
    go_region_held3 (fun w' => (w'.cell? ⟨u5.heap.size, 0, none⟩ = some (.slice Ax cr.fr.length cx) ∧ w'.cell? ⟨u5.heap.size, 1, none⟩ = some (.slice Bx cr.hs.length dx)) ∧ w'.cell? ⟨w.heap.size, 0, none⟩ = some (.slice A n c) ∧ w'.cell? ⟨w.heap.size, 1, none⟩ = some (.slice B m d))
      (first | with_reducible exact qe0 | with_reducible exact qe1 | with_reducible exact qe2 | with_reducible exact qf0 | go_keep)
      (first | (go_at_call 19; (refine (toCredits_any _ (hx.out.below B_d.out) sm.out).mono ?_); rintro e ud ⟨Ad, cd, Bd, dd, vd, rfl, od, hb⟩; have Ka_e := hid (Ka_d.out.step hb); have Kw_e := hid (Kw_d.out.step hb); have Kx_e := hid (Kx_d.out.step hb); have Kg_e := hid (Kg_d.out.step hb); have Lw_e := hid (Lw_d.out.step hb); have Lx_e := hid (Lx_d.out.step hb); have Lg_e := hid (Lg_d.out.step hb); have B_e := hid (B_d.out.trans (hb.mono (by omega))); have z_e := hb.size; have Ld_e := hid (Lc.of od); have qe1 := And.intro Kx_e.out.c2 Ka_e.out.c2; clear hb od) | (go_at_call 12; (refine (eqCredits_same _ (Lx_e.out.rd sm.out) (Ld_e.out.rd sm.out)).mono ?_); rintro e u10 ⟨rfl, hb⟩; have Ka_10 := hid (Ka_e.out.step hb); have Kw_10 := hid (Kw_e.out.step hb); have Kx_10 := hid (Kx_e.out.step hb); have Kg_10 := hid (Kg_e.out.step hb); have Lw_10 := hid (Lw_e.out.step hb); have Lx_10 := hid (Lx_e.out.step hb); have Lg_10 := hid (Lg_e.out.step hb); have B_10 := hid (B_e.out.trans (hb.mono (by omega))); have z_10 : u9.heap.size ≤ u10.heap.size := Nat.le_trans z_d (Nat.le_trans z_e hb.size); have qe2 := And.intro Kx_10.out.c2 Ka_10.out.c2; clear hb))
    clear qe0 qf0 qe1 qe2 hd B_d B_e Ld_e z_d z_e
    clear Ka_d Kw_d Kx_d Kg_d Lw_d Lx_d Lg_d
    clear Ka_e Kw_e Kx_e Kg_e Lw_e Lx_e Lg_e
    clear Ka_9 Kw_9 Kx_9 Kg_9 Lw_9 Lx_9 Lg_9 B_9
    obtain ⟨qx0, qx1⟩ := Kx_10.out.c2
    go_wp2_with fail
    refine (markCredits_any 1 _ Lx_10.out sm.out (by omega) (by omega)).mono ?_
    rw [hzx.out]
    rintro e u11 ⟨rfl, hL, hK⟩
    clear qx0 qx1
    have hk_11 := hid hK
    have z_11 : u10.heap.size ≤ u11.heap.size := hk_11.out.size
    have Ka_11 := hid (Ka_10.out.kp hk_11.out (fun (h : u4.heap.size ≤ w.heap.size ∧ w.heap.size < u5.heap.size) => by omega))
    have Kw_11 := hid (Kw_10.out.kp hk_11.out (fun (h : u4.heap.size ≤ u3.heap.size ∧ u3.heap.size < u5.heap.size) => by omega))
    have Kx_11 := hid (Kx_10.out.kp hk_11.out (fun (h : u4.heap.size ≤ u5.heap.size ∧ u5.heap.size < u5.heap.size) => by omega))
    have Kg_11 := hid (Kg_10.out.kp hk_11.out (fun (h : u4.heap.size ≤ u7.heap.size ∧ u7.heap.size < u5.heap.size) => by omega))
    have Lw_11 := hid (Lw_10.out.kp hk_11.out (fun b h1 h2 (h3 : u4.heap.size ≤ b ∧ b < u5.heap.size) => by omega))
    have Lg_11 := hid (Lg_10.out.kp hk_11.out (fun b h1 h2 (h3 : u4.heap.size ≤ b ∧ b < u5.heap.size) => by omega))
    have B_11 := hid (B_10.out.trans (hk_11.out.base (by omega) (fun b (h : u4.heap.size ≤ b ∧ b < u5.heap.size) => by omega)))
    clear Ka_10 Kw_10 Kx_10 Kg_10 Lw_10 Lx_10 Lg_10 B_10
    clear hk_11
    have Lx_11 := hid hL
    clear hL hK
    clear Lx_11
    clear Kx_11
    obtain ⟨qg0, qg1⟩ := Kg_11.out.c2
    obtain ⟨qw0, qw1⟩ := Kw_11.out.c2
    go_wp2_with fail
    refine (eqCredits_same _ (Lg_11.out.rd so.out) (Lw_11.out.rd so.out)).mono ?_
    rintro e u12 ⟨rfl, hb⟩
    clear qg0 qg1 qw0 qw1
    have hb_12 := hid hb
    have Ka_12 := hid (Ka_11.out.step hb_12.out)
    have Kw_12 := hid (Kw_11.out.step hb_12.out)
    have Kg_12 := hid (Kg_11.out.step hb_12.out)
    have Lw_12 := hid (Lw_11.out.step hb_12.out)
    have Lg_12 := hid (Lg_11.out.step hb_12.out)
    have B_12 := hid (B_11.out.trans (hb_12.out.mono (by omega)))
    have z_12 : u11.heap.size ≤ u12.heap.size := hb_12.out.size
    clear Ka_11 Kw_11 Kg_11 Lw_11 Lg_11 B_11
    clear hb_12
    clear hb
    obtain ⟨qg0, qg1⟩ := Kg_12.out.c2
    go_wp2_with fail
    refine (markCredits_any 1 _ Lg_12.out so.out (by omega) (by omega)).mono ?_
    rw [hz.out]
    rintro e u13 ⟨rfl, hL, hK⟩
    clear qg0 qg1
    have hk_13 := hid hK
    have z_13 : u12.heap.size ≤ u13.heap.size := hk_13.out.size
    have Ka_13 := hid (Ka_12.out.kp hk_13.out (fun (h : u6.heap.size ≤ w.heap.size ∧ w.heap.size < u7.heap.size) => by omega))
    have Kw_13 := hid (Kw_12.out.kp hk_13.out (fun (h : u6.heap.size ≤ u3.heap.size ∧ u3.heap.size < u7.heap.size) => by omega))
    have Kg_13 := hid (Kg_12.out.kp hk_13.out (fun (h : u6.heap.size ≤ u7.heap.size ∧ u7.heap.size < u7.heap.size) => by omega))
    have Lw_13 := hid (Lw_12.out.kp hk_13.out (fun b h1 h2 (h3 : u6.heap.size ≤ b ∧ b < u7.heap.size) => by omega))
    have B_13 := hid (B_12.out.trans (hk_13.out.base (by omega) (fun b (h : u6.heap.size ≤ b ∧ b < u7.heap.size) => by omega)))
    clear Ka_12 Kw_12 Kg_12 Lw_12 Lg_12 B_12
    clear hk_13
    have Lg_13 := hid hL
    clear hL hK
    obtain ⟨qg0, qg1⟩ := Kg_13.out.c2
    go_wp2_with fail
    refine (heldCredits_any 1 _ (Lg_13.out.rd (mkC_sm so.out)) so.out (by omega) (by omega)).mono ?_
    rw [hz.out]
    rintro e u14 ⟨rfl, hb⟩
    clear qg0 qg1
    have hb_14 := hid hb
    have Ka_14 := hid (Ka_13.out.step hb_14.out)
    have Kw_14 := hid (Kw_13.out.step hb_14.out)
    have Kg_14 := hid (Kg_13.out.step hb_14.out)
    have Lw_14 := hid (Lw_13.out.step hb_14.out)
    have Lg_14 := hid (Lg_13.out.step hb_14.out)
    have B_14 := hid (B_13.out.trans (hb_14.out.mono (by omega)))
    have z_14 : u13.heap.size ≤ u14.heap.size := hb_14.out.size
    clear Ka_13 Kw_13 Kg_13 Lw_13 Lg_13 B_13
    clear hb_14
    clear hb
    obtain ⟨qa0, qa1⟩ := Ka_14.out.c2
    go_wp2_with fail
    refine (toCredits_any _ (hx.out.below B_14.out) sm.out).mono ?_
    rintro e u15 ⟨Av, cv, Bv, dv, vv, rfl, ov, hb⟩
    clear qa0 qa1
    have hb_15 := hid hb
    have Ka_15 := hid (Ka_14.out.step hb_15.out)
    have Kw_15 := hid (Kw_14.out.step hb_15.out)
    have Kg_15 := hid (Kg_14.out.step hb_15.out)
    have Lw_15 := hid (Lw_14.out.step hb_15.out)
    have Lg_15 := hid (Lg_14.out.step hb_15.out)
    have B_15 := hid (B_14.out.trans (hb_15.out.mono (by omega)))
    have z_15 : u14.heap.size ≤ u15.heap.size := hb_15.out.size
    clear Ka_14 Kw_14 Kg_14 Lw_14 Lg_14 B_14
    clear hb_15
    clear hb
    have Lv_15 := hid (Lc.of ov)
    clear ov
    go_wp2_with fail
    refine (CreditsGive_ix hR.out _ (Lv_15.out.rd sm.out)).mono ?_
    rintro e u16 ⟨Ah, ch, Bh, dh, vh, rfl, oh, hb⟩
    have hb_16 := hid hb
    have Ka_16 := hid (Ka_15.out.step hb_16.out)
    have Kw_16 := hid (Kw_15.out.step hb_16.out)
    have Kg_16 := hid (Kg_15.out.step hb_16.out)
    have Lw_16 := hid (Lw_15.out.step hb_16.out)
    have Lg_16 := hid (Lg_15.out.step hb_16.out)
    have Lv_16 := hid (Lv_15.out.step hb_16.out)
    have B_16 := hid (B_15.out.trans (hb_16.out.mono (by omega)))
    have z_16 : u15.heap.size ≤ u16.heap.size := hb_16.out.size
    clear Ka_15 Kw_15 Kg_15 Lw_15 Lg_15 Lv_15 B_15
    clear hb_16
    clear hb
    have Lh_16 := hid (Lc.of oh)
    clear oh
    clear Lv_16
    go_upto_region 25 with (fail)
    obtain ⟨u17, hu⟩ : ∃ W, (u16.alloc (.cells #[.slice Ah o.fr.length ch, .slice Bh o.hs.length dh] 25)) = W := ⟨_, rfl⟩
    rw [hu]
    have hb : Below u16.heap.size u16 u17 := by rw [← hu]; exact below1 _ _
    have hch : Cs u17 (u16.heap.size) 25 #[.slice Ah o.fr.length ch, .slice Bh o.hs.length dh] := by rw [← hu]; exact Cs.new _ _ _
    clear hu
    have hb_17 := hid hb
    have Ka_17 := hid (Ka_16.out.step hb_17.out)
    have Kw_17 := hid (Kw_16.out.step hb_17.out)
    have Kg_17 := hid (Kg_16.out.step hb_17.out)
    have Lw_17 := hid (Lw_16.out.step hb_17.out)
    have Lg_17 := hid (Lg_16.out.step hb_17.out)
    have Lh_17 := hid (Lh_16.out.step hb_17.out)
    have B_17 := hid (B_16.out.trans (hb_17.out.mono (by omega)))
    have z_17 : u16.heap.size ≤ u17.heap.size := hb_17.out.size
    clear Ka_16 Kw_16 Kg_16 Lw_16 Lg_16 Lh_16 B_16
    clear hb_17
    clear hb
    have Kh_17 := hid hch
    have yh_17 : u16.heap.size < u17.heap.size := hch.lt
    clear hch
    obtain ⟨qh0, qh1⟩ := Kh_17.out.c2
    obtain ⟨qw0, qw1⟩ := Kw_17.out.c2
    go_wp2_with fail
    refine (eqCredits_same _ (Lh_17.out.rd so.out) (Lw_17.out.rd so.out)).mono ?_
    rintro e u18 ⟨rfl, hb⟩
    clear qh0 qh1 qw0 qw1
    have hb_18 := hid hb
    have Ka_18 := hid (Ka_17.out.step hb_18.out)
    have Kw_18 := hid (Kw_17.out.step hb_18.out)
    have Kg_18 := hid (Kg_17.out.step hb_18.out)
    have Kh_18 := hid (Kh_17.out.step hb_18.out)
    have Lw_18 := hid (Lw_17.out.step hb_18.out)
    have Lg_18 := hid (Lg_17.out.step hb_18.out)
    have Lh_18 := hid (Lh_17.out.step hb_18.out)
    have B_18 := hid (B_17.out.trans (hb_18.out.mono (by omega)))
    have z_18 : u17.heap.size ≤ u18.heap.size := hb_18.out.size
    clear Ka_17 Kw_17 Kg_17 Kh_17 Lw_17 Lg_17 Lh_17 B_17
    clear hb_18
    clear hb
    obtain ⟨qg0, qg1⟩ := Kg_18.out.c2
    go_wp2_with fail
    refine (heldCredits_any 1 _ (Lg_18.out.rd (mkC_sm so.out)) so.out (by omega) (by omega)).mono ?_
    rw [hz.out]
    rintro e u19 ⟨rfl, hb⟩
    clear qg0 qg1
    have hb_19 := hid hb
    have Ka_19 := hid (Ka_18.out.step hb_19.out)
    have Kw_19 := hid (Kw_18.out.step hb_19.out)
    have Kg_19 := hid (Kg_18.out.step hb_19.out)
    have Kh_19 := hid (Kh_18.out.step hb_19.out)
    have Lw_19 := hid (Lw_18.out.step hb_19.out)
    have Lg_19 := hid (Lg_18.out.step hb_19.out)
    have Lh_19 := hid (Lh_18.out.step hb_19.out)
    have B_19 := hid (B_18.out.trans (hb_19.out.mono (by omega)))
    have z_19 : u18.heap.size ≤ u19.heap.size := hb_19.out.size
    clear Ka_18 Kw_18 Kg_18 Kh_18 Lw_18 Lg_18 Lh_18 B_18
    clear hb_19
    clear hb
    go_wp2
    go_ret
    exact ⟨rfl, B_19.out⟩

end Go.Proofs.Ytgeihcbiahnnaaa
