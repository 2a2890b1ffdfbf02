/-
  The walks of the exact laws of GroupTrace, GroupPropose: the law returns true and writes nothing that was there. No condition.
-/
import Derived.Test.YtefpekehlmnnlaaGxD
import Derived.Test.YtefpekehlmnnlaaGmVs
import Derived.Deep.CutBlock
import Derived.Deep.RegionLaw
import Derived.Deep.RegionHeld3
namespace Go.Proofs.Ytefpekehlmnnlaa
open Go.RowKit
set_option linter.unusedVariables false
set_option linter.unusedSimpArgs false

theorem sameB_selfG (zs : List Int) : sameB zs zs = true := by simp [sameB]

theorem trR_len {g : Gp} {T : List Int} (h : trR g = T) : T.length ≤ g.D.length := by
  rw [← h]; unfold trR; split
  · simp [msgs]
  · simp

theorem prR_len {g g' : Gp} {m : Int} {s : St} {b : Bool} (h : prR g m = (g', s, b)) : g'.P.length ≤ g.P.length + 1 ∧ g'.D.length ≤ g.D.length := by
  unfold prR at h
  split at h
  · unfold prA at h
    split at h
    · simp only [Prod.mk.injEq] at h
      rw [← h.1]; exact ⟨by omega, by omega⟩
    · split at h
      · simp only [Prod.mk.injEq] at h
        rw [← h.1]; exact ⟨by omega, by omega⟩
      · simp only [Prod.mk.injEq] at h
        rw [← h.1]
        exact ⟨by simp, by simp⟩
  · simp only [Prod.mk.injEq] at h
    rw [← h.1]; exact ⟨by simp [gp0], by simp [gp0]⟩

set_option maxRecDepth 100000 in
set_option maxHeartbeats 16000000 in
theorem exGroupTrace {n c m d : Nat} {A B : Option Addr} {P D : List En} (i k  : Int) (w : World) (h1 : RdX w A n P) (hn : n ≤ maxLen) (h2 : RdX w B m D) (hm : m ≤ maxLen) :
    Calls Try.prog 9 #[gpV i k (.slice A n c) (.slice B m d)] w fun e w' => e = .returned (.bool true) ∧ Below w.heap.size w w' := by
  unfold maxLen at hn hm
  have hx1 := hid h1
  have hx2 := hid h2
  have hlP := hid h1.1
  have hlD := hid h2.1
  clear h1 h2
  obtain ⟨u0, hu0⟩ : ∃ W, w.alloc (.cells #[.int .i64 i, .int .i64 k, .slice A n c, .slice B m d] 32) = W := ⟨_, rfl⟩
  have B_0 := hid (show Below w.heap.size w u0 by rw [← hu0]; exact below1 _ _)
  have Ka_0 := hid (show Cs u0 w.heap.size 32 #[.int .i64 i, .int .i64 k, .slice A n c, .slice B m d] by rw [← hu0]; exact Cs.new _ _ _)
  have ya_0 : w.heap.size < u0.heap.size := Ka_0.out.lt
  replace hu0 := hid hu0
  by_cases hbig : n + m ≤ 1048576
  · have hz : (if n + m ≤ 1048576 then 1048576 - (n : Int) - (m : Int) else -1) = 1048576 - (n : Int) - (m : Int) := if_pos hbig
    have hnn : n < 1099511627776 := by omega
    have hmm : m < 1099511627776 := by omega
    have gz : ¬ (1048576 - (n : Int) - (m : Int) < 0) := by omega
    replace hz := hid hz
    obtain ⟨T, hR⟩ : ∃ T, trR ⟨i, k, P, D⟩ = T := ⟨_, rfl⟩
    have hTl : T.length ≤ m := by have := trR_len hR; simp only [hlD.out] at this; exact this
    replace hR := hid hR
    go_enter Try.func9, Try.ntmps9
    go_upto_region 2 with (fail)
    rw [hu0.out]
    obtain ⟨qa0, qa1, qa2, qa3⟩ := Ka_0.out.four
    go_wp2_with fail
    refine (szGroup_any i k _ (by omega) (by omega) hz.out).mono ?_
    rintro e u1 ⟨rfl, hb⟩
    clear qa0 qa1 qa2 qa3
    have hb_1 := hid hb
    have Ka_1 := hid (Ka_0.out.step hb_1.out)
    have B_1 := hid (B_0.out.trans (hb_1.out.mono (by omega)))
    have z_1 : u0.heap.size ≤ u1.heap.size := hb_1.out.size
    clear Ka_0 B_0
    clear hb_1
    clear hb
    obtain ⟨qa0, qa1, qa2, qa3⟩ := Ka_1.out.four
    go_wp2_with fail
    refine (toGroup_any i k _ (hx1.out.below B_1.out) (hx2.out.below B_1.out) hnn hmm).mono ?_
    rintro e u2 ⟨Ap, Bp, rfl, op, hb⟩
    clear qa0 qa1 qa2 qa3
    have hb_2 := hid hb
    have Ka_2 := hid (Ka_1.out.step hb_2.out)
    have B_2 := hid (B_1.out.trans (hb_2.out.mono (by omega)))
    have z_2 : u1.heap.size ≤ u2.heap.size := hb_2.out.size
    clear Ka_1 B_1
    clear hb_2
    clear hb
    have Lp_2 := hid (Lg.of op)
    clear op
    go_wp2_with fail
    refine (GroupTrace_spec hR.out _ (Lp_2.out.ow.rdg (by omega) (by omega))).mono ?_
    rintro e u3 ⟨At, ct, rfl, ot, hb⟩
    have hb_3 := hid hb
    have Ka_3 := hid (Ka_2.out.step hb_3.out)
    have Lp_3 := hid (Lp_2.out.step hb_3.out)
    have B_3 := hid (B_2.out.trans (hb_3.out.mono (by omega)))
    have z_3 : u2.heap.size ≤ u3.heap.size := hb_3.out.size
    clear Ka_2 Lp_2 B_2
    clear hb_3
    clear hb
    have Nt_3 := hid (Lv.ofI ot)
    clear ot
    clear Lp_3
    obtain ⟨qa0, qa1, qa2, qa3⟩ := Ka_3.out.four
    go_wp2_with fail
    refine (toGroup_any i k _ (hx1.out.below B_3.out) (hx2.out.below B_3.out) hnn hmm).mono ?_
    rintro e u4 ⟨Ax, Bx, rfl, ox, hb⟩
    clear qa0 qa1 qa2 qa3
    have hb_4 := hid hb
    have Ka_4 := hid (Ka_3.out.step hb_4.out)
    have Nt_4 := hid (Nt_3.out.step hb_4.out)
    have B_4 := hid (B_3.out.trans (hb_4.out.mono (by omega)))
    have z_4 : u3.heap.size ≤ u4.heap.size := hb_4.out.size
    clear Ka_3 Nt_3 B_3
    clear hb_4
    clear hb
    have Lx_4 := hid (Lg.of ox)
    clear ox
    go_upto_region 7 with (fail)
    obtain ⟨u5, hu⟩ : ∃ W, (u4.alloc (.cells #[.int .i64 i, .int .i64 k, .slice Ax n n, .slice Bx m m] 24)) = W := ⟨_, rfl⟩
    rw [hu]
    have hb : Below u4.heap.size u4 u5 := by rw [← hu]; exact below1 _ _
    have hcx : Cs u5 (u4.heap.size) 24 #[.int .i64 i, .int .i64 k, .slice Ax n n, .slice Bx m m] := by rw [← hu]; exact Cs.new _ _ _
    clear hu
    have hb_5 := hid hb
    have Ka_5 := hid (Ka_4.out.step hb_5.out)
    have Lx_5 := hid (Lx_4.out.step hb_5.out)
    have Nt_5 := hid (Nt_4.out.step hb_5.out)
    have B_5 := hid (B_4.out.trans (hb_5.out.mono (by omega)))
    have z_5 : u4.heap.size ≤ u5.heap.size := hb_5.out.size
    clear Ka_4 Lx_4 Nt_4 B_4
    clear hb_5
    clear hb
    have Kx_5 := hid hcx
    have yx_5 : u4.heap.size < u5.heap.size := hcx.lt
    clear hcx
    obtain ⟨qx0, qx1, qx2, qx3⟩ := Kx_5.out.four
    go_wp2_with fail
    refine (GroupTrace_impl hR.out _ (Lx_5.out.ow.rdg (by omega) (by omega))).mono ?_
    rintro e u6 ⟨Ag, cg, rfl, og, hb⟩
    clear qx0 qx1 qx2 qx3
    have hb_6 := hid hb
    have Ka_6 := hid (Ka_5.out.step hb_6.out)
    have Kx_6 := hid (Kx_5.out.step hb_6.out)
    have Lx_6 := hid (Lx_5.out.step hb_6.out)
    have Nt_6 := hid (Nt_5.out.step hb_6.out)
    have B_6 := hid (B_5.out.trans (hb_6.out.mono (by omega)))
    have z_6 : u5.heap.size ≤ u6.heap.size := hb_6.out.size
    clear Ka_5 Kx_5 Lx_5 Nt_5 B_5
    clear hb_6
    clear hb
    have Ng_6 := hid (Lv.ofI og)
    clear og
    go_wp2_with fail
    refine (eqIntS_any _ Ng_6.out.at_ Nt_6.out.at_ (by omega) (by omega)).mono ?_
    rw [sameB_selfG]
    rintro e u7 ⟨rfl, hq⟩
    have hb_7 := hid (hq.below u6.heap.size)
    have Ka_7 := hid (Ka_6.out.step hb_7.out)
    have Kx_7 := hid (Kx_6.out.step hb_7.out)
    have Lx_7 := hid (Lx_6.out.step hb_7.out)
    have Nt_7 := hid (Nt_6.out.step hb_7.out)
    have Ng_7 := hid (Ng_6.out.step hb_7.out)
    have B_7 := hid (B_6.out.trans (hb_7.out.mono (by omega)))
    have z_7 : u6.heap.size ≤ u7.heap.size := hb_7.out.size
    clear Ka_6 Kx_6 Lx_6 Nt_6 Ng_6 B_6
    clear hb_7
    clear hq
    have hd := hid (Below.refl u7.heap.size u7).drew
    have Ka_d := hid (Ka_7.out.step hd.out)
    have Kx_d := hid (Kx_7.out.step hd.out)
    have Lx_d := hid (Lx_7.out.step hd.out)
    have Nt_d := hid (Nt_7.out.step hd.out)
    have Ng_d := hid (Ng_7.out.step hd.out)
    have B_d := hid (B_7.out.trans (hd.out.mono (by omega)))
    have z_d : u7.heap.size ≤ u7.drew.heap.size := hd.out.size
    have qe0 := And.intro Kx_d.out.four Ka_d.out.four
    have qf0 := And.intro Kx_7.out.four Ka_7.out.four
    go_wp2_with fail
    go_region_held3 (fun w' => (w'.cell? ⟨u4.heap.size, 0, none⟩ = some (.int .i64 i) ∧ w'.cell? ⟨u4.heap.size, 1, none⟩ = some (.int .i64 k) ∧ w'.cell? ⟨u4.heap.size, 2, none⟩ = some (.slice Ax n n) ∧ w'.cell? ⟨u4.heap.size, 3, none⟩ = some (.slice Bx m m)) ∧ w'.cell? ⟨w.heap.size, 0, none⟩ = some (.int .i64 i) ∧ w'.cell? ⟨w.heap.size, 1, none⟩ = some (.int .i64 k) ∧ w'.cell? ⟨w.heap.size, 2, none⟩ = some (.slice A n c) ∧ w'.cell? ⟨w.heap.size, 3, none⟩ = some (.slice B m d))
      (first | with_reducible exact qe0 | with_reducible exact qe1 | with_reducible exact qe2 | with_reducible exact qf0 | go_keep)
      (first | (go_at_call 17; (refine (toGroup_any i k _ (hx1.out.below B_d.out) (hx2.out.below B_d.out) hnn hmm).mono ?_); rintro e ud ⟨Ad, Bd, rfl, od, hb⟩; have Ka_e := hid (Ka_d.out.step hb); have Kx_e := hid (Kx_d.out.step hb); have Lx_e := hid (Lx_d.out.step hb); have Nt_e := hid (Nt_d.out.step hb); have Ng_e := hid (Ng_d.out.step hb); have B_e := hid (B_d.out.trans (hb.mono (by omega))); have z_e := hb.size; have Ld_e := hid (Lg.of od); have qe1 := And.intro Kx_e.out.four Ka_e.out.four; clear hb od) | (go_at_call 12; (refine (eqGroup_same i k _ Lx_e.out.r1 Lx_e.out.r2 Ld_e.out.r1 Ld_e.out.r2 (by omega) (by omega)).mono ?_); rintro e u8 ⟨rfl, hb⟩; have Ka_8 := hid (Ka_e.out.step hb); have Kx_8 := hid (Kx_e.out.step hb); have Lx_8 := hid (Lx_e.out.step hb); have Nt_8 := hid (Nt_e.out.step hb); have Ng_8 := hid (Ng_e.out.step hb); have B_8 := hid (B_e.out.trans (hb.mono (by omega))); have z_8 : u7.heap.size ≤ u8.heap.size := Nat.le_trans z_d (Nat.le_trans z_e hb.size); have qe2 := And.intro Kx_8.out.four Ka_8.out.four; clear hb))
    clear qe0 qf0 qe1 qe2 hd B_d B_e Ld_e z_d z_e
    clear Ka_d Kx_d Lx_d Nt_d Ng_d
    clear Ka_e Kx_e Lx_e Nt_e Ng_e
    clear Ka_7 Kx_7 Lx_7 Nt_7 Ng_7 B_7
    obtain ⟨qx0, qx1, qx2, qx3⟩ := Kx_8.out.four
    go_wp2_with fail
    refine (markGroup_any i k 1 _ Lx_8.out (by omega) (by omega) (by omega) (by omega)).mono ?_
    rintro e u9 ⟨rfl, hL, hK⟩
    clear qx0 qx1 qx2 qx3
    have hk_9 := hid hK
    have z_9 : u8.heap.size ≤ u9.heap.size := hk_9.out.size
    have Ka_9 := hid (Ka_8.out.kp hk_9.out (fun (h : u3.heap.size ≤ w.heap.size ∧ w.heap.size < u4.heap.size) => by omega))
    have Kx_9 := hid (Kx_8.out.kp hk_9.out (fun (h : u3.heap.size ≤ u4.heap.size ∧ u4.heap.size < u4.heap.size) => by omega))
    have Nt_9 := hid (Nt_8.out.kp hk_9.out (fun b h1 h2 (h3 : u3.heap.size ≤ b ∧ b < u4.heap.size) => by omega))
    have Ng_9 := hid (Ng_8.out.kp hk_9.out (fun b h1 h2 (h3 : u3.heap.size ≤ b ∧ b < u4.heap.size) => by omega))
    have B_9 := hid (B_8.out.trans (hk_9.out.base (by omega) (fun b (h : u3.heap.size ≤ b ∧ b < u4.heap.size) => by omega)))
    clear Ka_8 Kx_8 Lx_8 Nt_8 Ng_8 B_8
    clear hk_9
    have Lx_9 := hid hL
    clear hL hK
    have gk : ¬ (1 + 4 * (n : Int) + 4 * (m : Int) < 0) := by omega
    go_wp2_with fail
    refine (eqIntS_any _ Ng_9.out.at_ Nt_9.out.at_ (by omega) (by omega)).mono ?_
    rw [sameB_selfG]
    rintro e u10 ⟨rfl, hq⟩
    have hb_10 := hid (hq.below u9.heap.size)
    have Ka_10 := hid (Ka_9.out.step hb_10.out)
    have Kx_10 := hid (Kx_9.out.step hb_10.out)
    have Lx_10 := hid (Lx_9.out.step hb_10.out)
    have Nt_10 := hid (Nt_9.out.step hb_10.out)
    have Ng_10 := hid (Ng_9.out.step hb_10.out)
    have B_10 := hid (B_9.out.trans (hb_10.out.mono (by omega)))
    have z_10 : u9.heap.size ≤ u10.heap.size := hb_10.out.size
    clear Ka_9 Kx_9 Lx_9 Nt_9 Ng_9 B_9
    clear hb_10
    clear hq
    clear Lx_10
    clear Kx_10
    go_wp2_with fail
    refine (markIntS_lv 1 _ Ng_10.out (by omega) (by omega) (by omega)).mono ?_
    rintro e u11 ⟨rfl, hL, hG, -⟩
    have hK : Kp (fun b => u5.heap.size ≤ b ∧ b < u6.heap.size) u10 u11 := ((Kp.refl (fun b => (Value.slice Ag T.length cg).ownBlock = some b) _).grown hG (fun j e => .inr e)).mono (fun b hb => ⟨(Ng_10.out.1.1.lt b hb).1, Ng_10.out.1.2 b hb⟩)
    have hk_11 := hid hK
    have z_11 : u10.heap.size ≤ u11.heap.size := hk_11.out.size
    have Ka_11 := hid (Ka_10.out.kp hk_11.out (fun (h : u5.heap.size ≤ w.heap.size ∧ w.heap.size < u6.heap.size) => by omega))
    have Nt_11 := hid (Nt_10.out.kp hk_11.out (fun b h1 h2 (h3 : u5.heap.size ≤ b ∧ b < u6.heap.size) => by omega))
    have B_11 := hid (B_10.out.trans (hk_11.out.base (by omega) (fun b (h : u5.heap.size ≤ b ∧ b < u6.heap.size) => by omega)))
    clear Ka_10 Nt_10 Ng_10 B_10
    clear hk_11
    have Ng_11 := hid hL
    clear hL hG hK
    have gm : ¬ (1 + (T.length : Int) < 0) := by omega
    go_wp2_with fail
    refine (heldIntS_any 1 _ Ng_11.out.at_ (by omega) (by omega) (by omega)).mono ?_
    rintro e w_ ⟨rfl, rfl⟩
    obtain ⟨qa0, qa1, qa2, qa3⟩ := Ka_11.out.four
    go_wp2_with fail
    refine (toGroup_any i k _ (hx1.out.below B_11.out) (hx2.out.below B_11.out) hnn hmm).mono ?_
    rintro e u12 ⟨Ay, By, rfl, oy, hb⟩
    clear qa0 qa1 qa2 qa3
    have hb_12 := hid hb
    have Ka_12 := hid (Ka_11.out.step hb_12.out)
    have Nt_12 := hid (Nt_11.out.step hb_12.out)
    have Ng_12 := hid (Ng_11.out.step hb_12.out)
    have B_12 := hid (B_11.out.trans (hb_12.out.mono (by omega)))
    have z_12 : u11.heap.size ≤ u12.heap.size := hb_12.out.size
    clear Ka_11 Nt_11 Ng_11 B_11
    clear hb_12
    clear hb
    have Ly_12 := hid (Lg.of oy)
    clear oy
    go_wp2_with fail
    refine (GroupTrace_impl hR.out _ (Ly_12.out.ow.rdg (by omega) (by omega))).mono ?_
    rintro e u13 ⟨Ah, ch, rfl, oh, hb⟩
    have hb_13 := hid hb
    have Ka_13 := hid (Ka_12.out.step hb_13.out)
    have Ly_13 := hid (Ly_12.out.step hb_13.out)
    have Nt_13 := hid (Nt_12.out.step hb_13.out)
    have Ng_13 := hid (Ng_12.out.step hb_13.out)
    have B_13 := hid (B_12.out.trans (hb_13.out.mono (by omega)))
    have z_13 : u12.heap.size ≤ u13.heap.size := hb_13.out.size
    clear Ka_12 Ly_12 Nt_12 Ng_12 B_12
    clear hb_13
    clear hb
    have Nh_13 := hid (Lv.ofI oh)
    clear oh
    clear Ly_13
    go_wp2_with fail
    refine (eqIntS_any _ Nh_13.out.at_ Nt_13.out.at_ (by omega) (by omega)).mono ?_
    rw [sameB_selfG]
    rintro e u14 ⟨rfl, hq⟩
    have hb_14 := hid (hq.below u13.heap.size)
    have Ka_14 := hid (Ka_13.out.step hb_14.out)
    have Nt_14 := hid (Nt_13.out.step hb_14.out)
    have Ng_14 := hid (Ng_13.out.step hb_14.out)
    have Nh_14 := hid (Nh_13.out.step hb_14.out)
    have B_14 := hid (B_13.out.trans (hb_14.out.mono (by omega)))
    have z_14 : u13.heap.size ≤ u14.heap.size := hb_14.out.size
    clear Ka_13 Nt_13 Ng_13 Nh_13 B_13
    clear hb_14
    clear hq
    go_wp2_with fail
    refine (heldIntS_any 1 _ Ng_14.out.at_ (by omega) (by omega) (by omega)).mono ?_
    rintro e w_ ⟨rfl, rfl⟩
    go_wp2
    go_ret
    exact ⟨rfl, B_14.out⟩
  · have hz : (if n + m ≤ 1048576 then 1048576 - (n : Int) - (m : Int) else -1) = -1 := if_neg hbig
    replace hz := hid hz
    obtain ⟨qa0, qa1, qa2, qa3⟩ := Ka_0.out.four
    go_enter Try.func9, Try.ntmps9
    go_upto_region 2 with (fail)
    rw [hu0.out]
    go_wp2_with fail
    refine (szGroup_any i k _ (by omega) (by omega) hz.out).mono ?_
    rintro e w1 ⟨rfl, hb⟩
    have hB := hid (B_0.out.trans (hb.mono (by omega)))
    clear hb
    go_wp2
    go_ret
    exact ⟨rfl, hB.out⟩

set_option maxRecDepth 100000 in
set_option maxHeartbeats 16000000 in
theorem exGroupPropose {n c m d : Nat} {A B : Option Addr} {P D : List En} (i k msg : Int) (w : World) (h1 : RdX w A n P) (hn : n ≤ maxLen) (h2 : RdX w B m D) (hm : m ≤ maxLen) :
    Calls Try.prog 5 #[gpV i k (.slice A n c) (.slice B m d), .int .i64 msg] w fun e w' => e = .returned (.bool true) ∧ Below w.heap.size w w' := by
  unfold maxLen at hn hm
  have hx1 := hid h1
  have hx2 := hid h2
  have hlP := hid h1.1
  have hlD := hid h2.1
  clear h1 h2
  obtain ⟨u0, hu0⟩ : ∃ W, w.alloc (.cells #[.int .i64 i, .int .i64 k, .slice A n c, .slice B m d] 32) = W := ⟨_, rfl⟩
  have B_0 := hid (show Below w.heap.size w u0 by rw [← hu0]; exact below1 _ _)
  have Ka_0 := hid (show Cs u0 w.heap.size 32 #[.int .i64 i, .int .i64 k, .slice A n c, .slice B m d] by rw [← hu0]; exact Cs.new _ _ _)
  have ya_0 : w.heap.size < u0.heap.size := Ka_0.out.lt
  replace hu0 := hid hu0
  by_cases hbig : n + m ≤ 1048576
  · have hz : (if n + m ≤ 1048576 then 1048576 - (n : Int) - (m : Int) else -1) = 1048576 - (n : Int) - (m : Int) := if_pos hbig
    have hnn : n < 1099511627776 := by omega
    have hmm : m < 1099511627776 := by omega
    have gz : ¬ (1048576 - (n : Int) - (m : Int) < 0) := by omega
    replace hz := hid hz
    obtain ⟨id', ck', P', D', t', k', b', hR⟩ : ∃ id' ck' P' D' t' k' b', prR ⟨i, k, P, D⟩ msg = (⟨id', ck', P', D'⟩, (t', k'), b') := ⟨_, _, _, _, _, _, _, rfl⟩
    have hPl : P'.length ≤ n + 1 := by have := (prR_len hR).1; simp only [hlP.out] at this; exact this
    have hDl : D'.length ≤ m := by have := (prR_len hR).2; simp only [hlD.out] at this; exact this
    replace hR := hid hR
    go_enter Try.func5, Try.ntmps5
    go_upto_region 2 with (fail)
    rw [hu0.out]
    obtain ⟨qa0, qa1, qa2, qa3⟩ := Ka_0.out.four
    go_wp2_with fail
    refine (szGroup_any i k _ (by omega) (by omega) hz.out).mono ?_
    rintro e u1 ⟨rfl, hb⟩
    clear qa0 qa1 qa2 qa3
    have hb_1 := hid hb
    have Ka_1 := hid (Ka_0.out.step hb_1.out)
    have B_1 := hid (B_0.out.trans (hb_1.out.mono (by omega)))
    have z_1 : u0.heap.size ≤ u1.heap.size := hb_1.out.size
    clear Ka_0 B_0
    clear hb_1
    clear hb
    obtain ⟨qa0, qa1, qa2, qa3⟩ := Ka_1.out.four
    go_wp2_with fail
    refine (toGroup_any i k _ (hx1.out.below B_1.out) (hx2.out.below B_1.out) hnn hmm).mono ?_
    rintro e u2 ⟨Ap, Bp, rfl, op, hb⟩
    clear qa0 qa1 qa2 qa3
    have hb_2 := hid hb
    have Ka_2 := hid (Ka_1.out.step hb_2.out)
    have B_2 := hid (B_1.out.trans (hb_2.out.mono (by omega)))
    have z_2 : u1.heap.size ≤ u2.heap.size := hb_2.out.size
    clear Ka_1 B_1
    clear hb_2
    clear hb
    have Lp_2 := hid (Lg.of op)
    clear op
    go_wp2_with fail
    refine (GroupPropose_spec hR.out _ (Lp_2.out.ow.rdg (by omega) (by omega)) (by omega)).mono ?_
    rintro e u3 ⟨Aw, cw, Bw, dw, rfl, ow, hb⟩
    have hb_3 := hid hb
    have Ka_3 := hid (Ka_2.out.step hb_3.out)
    have Lp_3 := hid (Lp_2.out.step hb_3.out)
    have B_3 := hid (B_2.out.trans (hb_3.out.mono (by omega)))
    have z_3 : u2.heap.size ≤ u3.heap.size := hb_3.out.size
    clear Ka_2 Lp_2 B_2
    clear hb_3
    clear hb
    have Lw_3 := hid (Lg.of ow)
    clear ow
    clear Lp_3
    go_upto_region 6 with (fail)
    obtain ⟨u4, hu⟩ : ∃ W, ((u3.alloc (.cells #[.int .i64 id', .int .i64 ck', .slice Aw P'.length cw, .slice Bw D'.length dw] 24)).alloc (.cells #[.int .i64 t', .int .i64 k'] 38)) = W := ⟨_, rfl⟩
    rw [hu]
    have hb : Below u3.heap.size u3 u4 := by rw [← hu]; exact below2 _ _ _
    have hcw : Cs u4 (u3.heap.size) 24 #[.int .i64 id', .int .i64 ck', .slice Aw P'.length cw, .slice Bw D'.length dw] := by rw [← hu]; exact (Cs.new _ _ _).alloc _
    have hct : Cs u4 (u3.heap.size + 1) 38 #[.int .i64 t', .int .i64 k'] := by rw [← hu]; exact Cs.new' _ _ _ (by simp)
    clear hu
    have hb_4 := hid hb
    have Ka_4 := hid (Ka_3.out.step hb_4.out)
    have Lw_4 := hid (Lw_3.out.step hb_4.out)
    have B_4 := hid (B_3.out.trans (hb_4.out.mono (by omega)))
    have z_4 : u3.heap.size ≤ u4.heap.size := hb_4.out.size
    clear Ka_3 Lw_3 B_3
    clear hb_4
    clear hb
    have Kw_4 := hid hcw
    have yw_4 : u3.heap.size < u4.heap.size := hcw.lt
    clear hcw
    have Kt_4 := hid hct
    have yt_4 : u3.heap.size + 1 < u4.heap.size := hct.lt
    clear hct
    obtain ⟨qa0, qa1, qa2, qa3⟩ := Ka_4.out.four
    go_wp2_with fail
    refine (toGroup_any i k _ (hx1.out.below B_4.out) (hx2.out.below B_4.out) hnn hmm).mono ?_
    rintro e u5 ⟨Ax, Bx, rfl, ox, hb⟩
    clear qa0 qa1 qa2 qa3
    have hb_5 := hid hb
    have Ka_5 := hid (Ka_4.out.step hb_5.out)
    have Kw_5 := hid (Kw_4.out.step hb_5.out)
    have Kt_5 := hid (Kt_4.out.step hb_5.out)
    have Lw_5 := hid (Lw_4.out.step hb_5.out)
    have B_5 := hid (B_4.out.trans (hb_5.out.mono (by omega)))
    have z_5 : u4.heap.size ≤ u5.heap.size := hb_5.out.size
    clear Ka_4 Kw_4 Kt_4 Lw_4 B_4
    clear hb_5
    clear hb
    have Lx_5 := hid (Lg.of ox)
    clear ox
    go_upto_region 7 with (fail)
    obtain ⟨u6, hu⟩ : ∃ W, (u5.alloc (.cells #[.int .i64 i, .int .i64 k, .slice Ax n n, .slice Bx m m] 24)) = W := ⟨_, rfl⟩
    rw [hu]
    have hb : Below u5.heap.size u5 u6 := by rw [← hu]; exact below1 _ _
    have hcx : Cs u6 (u5.heap.size) 24 #[.int .i64 i, .int .i64 k, .slice Ax n n, .slice Bx m m] := by rw [← hu]; exact Cs.new _ _ _
    clear hu
    have hb_6 := hid hb
    have Ka_6 := hid (Ka_5.out.step hb_6.out)
    have Kw_6 := hid (Kw_5.out.step hb_6.out)
    have Kt_6 := hid (Kt_5.out.step hb_6.out)
    have Lw_6 := hid (Lw_5.out.step hb_6.out)
    have Lx_6 := hid (Lx_5.out.step hb_6.out)
    have B_6 := hid (B_5.out.trans (hb_6.out.mono (by omega)))
    have z_6 : u5.heap.size ≤ u6.heap.size := hb_6.out.size
    clear Ka_5 Kw_5 Kt_5 Lw_5 Lx_5 B_5
    clear hb_6
    clear hb
    have Kx_6 := hid hcx
    have yx_6 : u5.heap.size < u6.heap.size := hcx.lt
    clear hcx
    obtain ⟨qx0, qx1, qx2, qx3⟩ := Kx_6.out.four
    go_wp2_with fail
    refine (GroupPropose_impl hR.out _ (Lx_6.out.ow.rdg (by omega) (by omega)) (by omega)).mono ?_
    rintro e u7 ⟨Ag, cg, Bg, dg, rfl, og, hb⟩
    clear qx0 qx1 qx2 qx3
    have hb_7 := hid hb
    have Ka_7 := hid (Ka_6.out.step hb_7.out)
    have Kw_7 := hid (Kw_6.out.step hb_7.out)
    have Kt_7 := hid (Kt_6.out.step hb_7.out)
    have Kx_7 := hid (Kx_6.out.step hb_7.out)
    have Lw_7 := hid (Lw_6.out.step hb_7.out)
    have Lx_7 := hid (Lx_6.out.step hb_7.out)
    have B_7 := hid (B_6.out.trans (hb_7.out.mono (by omega)))
    have z_7 : u6.heap.size ≤ u7.heap.size := hb_7.out.size
    clear Ka_6 Kw_6 Kt_6 Kx_6 Lw_6 Lx_6 B_6
    clear hb_7
    clear hb
    have Lg_7 := hid (Lg.of og)
    clear og
    go_upto_region 8 with (fail)
    obtain ⟨u8, hu⟩ : ∃ W, ((u7.alloc (.cells #[.int .i64 id', .int .i64 ck', .slice Ag P'.length cg, .slice Bg D'.length dg] 24)).alloc (.cells #[.int .i64 t', .int .i64 k'] 38)) = W := ⟨_, rfl⟩
    rw [hu]
    have hb : Below u7.heap.size u7 u8 := by rw [← hu]; exact below2 _ _ _
    have hcg : Cs u8 (u7.heap.size) 24 #[.int .i64 id', .int .i64 ck', .slice Ag P'.length cg, .slice Bg D'.length dg] := by rw [← hu]; exact (Cs.new _ _ _).alloc _
    have hcv : Cs u8 (u7.heap.size + 1) 38 #[.int .i64 t', .int .i64 k'] := by rw [← hu]; exact Cs.new' _ _ _ (by simp)
    clear hu
    have hb_8 := hid hb
    have Ka_8 := hid (Ka_7.out.step hb_8.out)
    have Kw_8 := hid (Kw_7.out.step hb_8.out)
    have Kt_8 := hid (Kt_7.out.step hb_8.out)
    have Kx_8 := hid (Kx_7.out.step hb_8.out)
    have Lw_8 := hid (Lw_7.out.step hb_8.out)
    have Lx_8 := hid (Lx_7.out.step hb_8.out)
    have Lg_8 := hid (Lg_7.out.step hb_8.out)
    have B_8 := hid (B_7.out.trans (hb_8.out.mono (by omega)))
    have z_8 : u7.heap.size ≤ u8.heap.size := hb_8.out.size
    clear Ka_7 Kw_7 Kt_7 Kx_7 Lw_7 Lx_7 Lg_7 B_7
    clear hb_8
    clear hb
    have Kg_8 := hid hcg
    have yg_8 : u7.heap.size < u8.heap.size := hcg.lt
    clear hcg
    have Kv_8 := hid hcv
    have yv_8 : u7.heap.size + 1 < u8.heap.size := hcv.lt
    clear hcv
    obtain ⟨qg0, qg1, qg2, qg3⟩ := Kg_8.out.four
    obtain ⟨qw0, qw1, qw2, qw3⟩ := Kw_8.out.four
    go_wp2_with fail
    refine (eqGroup_same id' ck' _ Lg_8.out.r1 Lg_8.out.r2 Lw_8.out.r1 Lw_8.out.r2 (by omega) (by omega)).mono ?_
    rintro e u9 ⟨rfl, hb⟩
    clear qg0 qg1 qg2 qg3 qw0 qw1 qw2 qw3
    have hb_9 := hid hb
    have Ka_9 := hid (Ka_8.out.step hb_9.out)
    have Kw_9 := hid (Kw_8.out.step hb_9.out)
    have Kt_9 := hid (Kt_8.out.step hb_9.out)
    have Kx_9 := hid (Kx_8.out.step hb_9.out)
    have Kg_9 := hid (Kg_8.out.step hb_9.out)
    have Kv_9 := hid (Kv_8.out.step hb_9.out)
    have Lw_9 := hid (Lw_8.out.step hb_9.out)
    have Lx_9 := hid (Lx_8.out.step hb_9.out)
    have Lg_9 := hid (Lg_8.out.step hb_9.out)
    have B_9 := hid (B_8.out.trans (hb_9.out.mono (by omega)))
    have z_9 : u8.heap.size ≤ u9.heap.size := hb_9.out.size
    clear Ka_8 Kw_8 Kt_8 Kx_8 Kg_8 Kv_8 Lw_8 Lx_8 Lg_8 B_8
    clear hb_9
    clear hb
    have hbb : (b' != b') = false := by cases b' <;> rfl
    obtain ⟨qv0, qv1, -, -⟩ := Kv_9.out.two
    obtain ⟨qt0, qt1, -, -⟩ := Kt_9.out.two
    go_wp2_with fail
    refine (eqStamp_same t' k' _).mono ?_
    rintro e u10 ⟨rfl, hb⟩
    clear qv0 qv1 qt0 qt1
    have hb_10 := hid hb
    have Ka_10 := hid (Ka_9.out.step hb_10.out)
    have Kw_10 := hid (Kw_9.out.step hb_10.out)
    have Kt_10 := hid (Kt_9.out.step hb_10.out)
    have Kx_10 := hid (Kx_9.out.step hb_10.out)
    have Kg_10 := hid (Kg_9.out.step hb_10.out)
    have Kv_10 := hid (Kv_9.out.step hb_10.out)
    have Lw_10 := hid (Lw_9.out.step hb_10.out)
    have Lx_10 := hid (Lx_9.out.step hb_10.out)
    have Lg_10 := hid (Lg_9.out.step hb_10.out)
    have B_10 := hid (B_9.out.trans (hb_10.out.mono (by omega)))
    have z_10 : u9.heap.size ≤ u10.heap.size := hb_10.out.size
    clear Ka_9 Kw_9 Kt_9 Kx_9 Kg_9 Kv_9 Lw_9 Lx_9 Lg_9 B_9
    clear hb_10
    clear hb
    have hd := hid (Below.refl u10.heap.size u10).drew
    have Ka_d := hid (Ka_10.out.step hd.out)
    have Kw_d := hid (Kw_10.out.step hd.out)
    have Kt_d := hid (Kt_10.out.step hd.out)
    have Kx_d := hid (Kx_10.out.step hd.out)
    have Kg_d := hid (Kg_10.out.step hd.out)
    have Kv_d := hid (Kv_10.out.step hd.out)
    have Lw_d := hid (Lw_10.out.step hd.out)
    have Lx_d := hid (Lx_10.out.step hd.out)
    have Lg_d := hid (Lg_10.out.step hd.out)
    have B_d := hid (B_10.out.trans (hd.out.mono (by omega)))
    have z_d : u10.heap.size ≤ u10.drew.heap.size := hd.out.size
    have qe0 := And.intro Kx_d.out.four Ka_d.out.four
    have qf0 := And.intro Kx_10.out.four Ka_10.out.four
    go_wp2_with fail
    go_region_held3 (fun w' => (w'.cell? ⟨u5.heap.size, 0, none⟩ = some (.int .i64 i) ∧ w'.cell? ⟨u5.heap.size, 1, none⟩ = some (.int .i64 k) ∧ w'.cell? ⟨u5.heap.size, 2, none⟩ = some (.slice Ax n n) ∧ w'.cell? ⟨u5.heap.size, 3, none⟩ = some (.slice Bx m m)) ∧ w'.cell? ⟨w.heap.size, 0, none⟩ = some (.int .i64 i) ∧ w'.cell? ⟨w.heap.size, 1, none⟩ = some (.int .i64 k) ∧ w'.cell? ⟨w.heap.size, 2, none⟩ = some (.slice A n c) ∧ w'.cell? ⟨w.heap.size, 3, none⟩ = some (.slice B m d))
      (first | with_reducible exact qe0 | with_reducible exact qe1 | with_reducible exact qe2 | with_reducible exact qf0 | go_keep)
      (first | (go_at_call 17; (refine (toGroup_any i k _ (hx1.out.below B_d.out) (hx2.out.below B_d.out) hnn hmm).mono ?_); rintro e ud ⟨Ad, Bd, rfl, od, hb⟩; have Ka_e := hid (Ka_d.out.step hb); have Kw_e := hid (Kw_d.out.step hb); have Kt_e := hid (Kt_d.out.step hb); have Kx_e := hid (Kx_d.out.step hb); have Kg_e := hid (Kg_d.out.step hb); have Kv_e := hid (Kv_d.out.step hb); have Lw_e := hid (Lw_d.out.step hb); have Lx_e := hid (Lx_d.out.step hb); have Lg_e := hid (Lg_d.out.step hb); have B_e := hid (B_d.out.trans (hb.mono (by omega))); have z_e := hb.size; have Ld_e := hid (Lg.of od); have qe1 := And.intro Kx_e.out.four Ka_e.out.four; clear hb od) | (go_at_call 12; (refine (eqGroup_same i k _ Lx_e.out.r1 Lx_e.out.r2 Ld_e.out.r1 Ld_e.out.r2 (by omega) (by omega)).mono ?_); rintro e u11 ⟨rfl, hb⟩; have Ka_11 := hid (Ka_e.out.step hb); have Kw_11 := hid (Kw_e.out.step hb); have Kt_11 := hid (Kt_e.out.step hb); have Kx_11 := hid (Kx_e.out.step hb); have Kg_11 := hid (Kg_e.out.step hb); have Kv_11 := hid (Kv_e.out.step hb); have Lw_11 := hid (Lw_e.out.step hb); have Lx_11 := hid (Lx_e.out.step hb); have Lg_11 := hid (Lg_e.out.step hb); have B_11 := hid (B_e.out.trans (hb.mono (by omega))); have z_11 : u10.heap.size ≤ u11.heap.size := Nat.le_trans z_d (Nat.le_trans z_e hb.size); have qe2 := And.intro Kx_11.out.four Ka_11.out.four; clear hb))
    clear qe0 qf0 qe1 qe2 hd B_d B_e Ld_e z_d z_e
    clear Ka_d Kw_d Kt_d Kx_d Kg_d Kv_d Lw_d Lx_d Lg_d
    clear Ka_e Kw_e Kt_e Kx_e Kg_e Kv_e Lw_e Lx_e Lg_e
    clear Ka_10 Kw_10 Kt_10 Kx_10 Kg_10 Kv_10 Lw_10 Lx_10 Lg_10 B_10
    obtain ⟨qx0, qx1, qx2, qx3⟩ := Kx_11.out.four
    go_wp2_with fail
    refine (markGroup_any i k 1 _ Lx_11.out (by omega) (by omega) (by omega) (by omega)).mono ?_
    rintro e u12 ⟨rfl, hL, hK⟩
    clear qx0 qx1 qx2 qx3
    have hk_12 := hid hK
    have z_12 : u11.heap.size ≤ u12.heap.size := hk_12.out.size
    have Ka_12 := hid (Ka_11.out.kp hk_12.out (fun (h : u4.heap.size ≤ w.heap.size ∧ w.heap.size < u5.heap.size) => by omega))
    have Kw_12 := hid (Kw_11.out.kp hk_12.out (fun (h : u4.heap.size ≤ u3.heap.size ∧ u3.heap.size < u5.heap.size) => by omega))
    have Kt_12 := hid (Kt_11.out.kp hk_12.out (fun (h : u4.heap.size ≤ u3.heap.size + 1 ∧ u3.heap.size + 1 < u5.heap.size) => by omega))
    have Kx_12 := hid (Kx_11.out.kp hk_12.out (fun (h : u4.heap.size ≤ u5.heap.size ∧ u5.heap.size < u5.heap.size) => by omega))
    have Kg_12 := hid (Kg_11.out.kp hk_12.out (fun (h : u4.heap.size ≤ u7.heap.size ∧ u7.heap.size < u5.heap.size) => by omega))
    have Kv_12 := hid (Kv_11.out.kp hk_12.out (fun (h : u4.heap.size ≤ u7.heap.size + 1 ∧ u7.heap.size + 1 < u5.heap.size) => by omega))
    have Lw_12 := hid (Lw_11.out.kp hk_12.out (fun b h1 h2 (h3 : u4.heap.size ≤ b ∧ b < u5.heap.size) => by omega))
    have Lg_12 := hid (Lg_11.out.kp hk_12.out (fun b h1 h2 (h3 : u4.heap.size ≤ b ∧ b < u5.heap.size) => by omega))
    have B_12 := hid (B_11.out.trans (hk_12.out.base (by omega) (fun b (h : u4.heap.size ≤ b ∧ b < u5.heap.size) => by omega)))
    clear Ka_11 Kw_11 Kt_11 Kx_11 Kg_11 Kv_11 Lw_11 Lx_11 Lg_11 B_11
    clear hk_12
    have Lx_12 := hid hL
    clear hL hK
    have gk : ¬ (1 + 4 * (n : Int) + 4 * (m : Int) < 0) := by omega
    obtain ⟨qg0, qg1, qg2, qg3⟩ := Kg_12.out.four
    obtain ⟨qw0, qw1, qw2, qw3⟩ := Kw_12.out.four
    go_wp2_with fail
    refine (eqGroup_same id' ck' _ Lg_12.out.r1 Lg_12.out.r2 Lw_12.out.r1 Lw_12.out.r2 (by omega) (by omega)).mono ?_
    rintro e u13 ⟨rfl, hb⟩
    clear qg0 qg1 qg2 qg3 qw0 qw1 qw2 qw3
    have hb_13 := hid hb
    have Ka_13 := hid (Ka_12.out.step hb_13.out)
    have Kw_13 := hid (Kw_12.out.step hb_13.out)
    have Kt_13 := hid (Kt_12.out.step hb_13.out)
    have Kx_13 := hid (Kx_12.out.step hb_13.out)
    have Kg_13 := hid (Kg_12.out.step hb_13.out)
    have Kv_13 := hid (Kv_12.out.step hb_13.out)
    have Lw_13 := hid (Lw_12.out.step hb_13.out)
    have Lx_13 := hid (Lx_12.out.step hb_13.out)
    have Lg_13 := hid (Lg_12.out.step hb_13.out)
    have B_13 := hid (B_12.out.trans (hb_13.out.mono (by omega)))
    have z_13 : u12.heap.size ≤ u13.heap.size := hb_13.out.size
    clear Ka_12 Kw_12 Kt_12 Kx_12 Kg_12 Kv_12 Lw_12 Lx_12 Lg_12 B_12
    clear hb_13
    clear hb
    obtain ⟨qv0, qv1, -, -⟩ := Kv_13.out.two
    obtain ⟨qt0, qt1, -, -⟩ := Kt_13.out.two
    go_wp2_with fail
    refine (eqStamp_same t' k' _).mono ?_
    rintro e u14 ⟨rfl, hb⟩
    clear qv0 qv1 qt0 qt1
    have hb_14 := hid hb
    have Ka_14 := hid (Ka_13.out.step hb_14.out)
    have Kw_14 := hid (Kw_13.out.step hb_14.out)
    have Kt_14 := hid (Kt_13.out.step hb_14.out)
    have Kx_14 := hid (Kx_13.out.step hb_14.out)
    have Kg_14 := hid (Kg_13.out.step hb_14.out)
    have Kv_14 := hid (Kv_13.out.step hb_14.out)
    have Lw_14 := hid (Lw_13.out.step hb_14.out)
    have Lx_14 := hid (Lx_13.out.step hb_14.out)
    have Lg_14 := hid (Lg_13.out.step hb_14.out)
    have B_14 := hid (B_13.out.trans (hb_14.out.mono (by omega)))
    have z_14 : u13.heap.size ≤ u14.heap.size := hb_14.out.size
    clear Ka_13 Kw_13 Kt_13 Kx_13 Kg_13 Kv_13 Lw_13 Lx_13 Lg_13 B_13
    clear hb_14
    clear hb
    clear Lx_14
    clear Kx_14
    clear Kv_14
    obtain ⟨qg0, qg1, qg2, qg3⟩ := Kg_14.out.four
    go_wp2_with fail
    refine (markGroup_any id' ck' 1 _ Lg_14.out (by omega) (by omega) (by omega) (by omega)).mono ?_
    rintro e u15 ⟨rfl, hL, hK⟩
    clear qg0 qg1 qg2 qg3
    have hk_15 := hid hK
    have z_15 : u14.heap.size ≤ u15.heap.size := hk_15.out.size
    have Ka_15 := hid (Ka_14.out.kp hk_15.out (fun (h : u6.heap.size ≤ w.heap.size ∧ w.heap.size < u7.heap.size) => by omega))
    have Kw_15 := hid (Kw_14.out.kp hk_15.out (fun (h : u6.heap.size ≤ u3.heap.size ∧ u3.heap.size < u7.heap.size) => by omega))
    have Kt_15 := hid (Kt_14.out.kp hk_15.out (fun (h : u6.heap.size ≤ u3.heap.size + 1 ∧ u3.heap.size + 1 < u7.heap.size) => by omega))
    have Kg_15 := hid (Kg_14.out.kp hk_15.out (fun (h : u6.heap.size ≤ u7.heap.size ∧ u7.heap.size < u7.heap.size) => by omega))
    have Lw_15 := hid (Lw_14.out.kp hk_15.out (fun b h1 h2 (h3 : u6.heap.size ≤ b ∧ b < u7.heap.size) => by omega))
    have B_15 := hid (B_14.out.trans (hk_15.out.base (by omega) (fun b (h : u6.heap.size ≤ b ∧ b < u7.heap.size) => by omega)))
    clear Ka_14 Kw_14 Kt_14 Kg_14 Lw_14 Lg_14 B_14
    clear hk_15
    have Lg_15 := hid hL
    clear hL hK
    have gm : ¬ (1 + 4 * (P'.length : Int) + 4 * (D'.length : Int) < 0) := by omega
    obtain ⟨qg0, qg1, qg2, qg3⟩ := Kg_15.out.four
    go_wp2_with fail
    refine (heldGroup_any id' ck' 1 _ Lg_15.out.r1 Lg_15.out.r2 (by omega) (by omega) (by omega) (by omega)).mono ?_
    rintro e u16 ⟨rfl, hb⟩
    clear qg0 qg1 qg2 qg3
    have hb_16 := hid hb
    have Ka_16 := hid (Ka_15.out.step hb_16.out)
    have Kw_16 := hid (Kw_15.out.step hb_16.out)
    have Kt_16 := hid (Kt_15.out.step hb_16.out)
    have Kg_16 := hid (Kg_15.out.step hb_16.out)
    have Lw_16 := hid (Lw_15.out.step hb_16.out)
    have Lg_16 := hid (Lg_15.out.step hb_16.out)
    have B_16 := hid (B_15.out.trans (hb_16.out.mono (by omega)))
    have z_16 : u15.heap.size ≤ u16.heap.size := hb_16.out.size
    clear Ka_15 Kw_15 Kt_15 Kg_15 Lw_15 Lg_15 B_15
    clear hb_16
    clear hb
    obtain ⟨qa0, qa1, qa2, qa3⟩ := Ka_16.out.four
    go_wp2_with fail
    refine (toGroup_any i k _ (hx1.out.below B_16.out) (hx2.out.below B_16.out) hnn hmm).mono ?_
    rintro e u17 ⟨Ay, By, rfl, oy, hb⟩
    clear qa0 qa1 qa2 qa3
    have hb_17 := hid hb
    have Ka_17 := hid (Ka_16.out.step hb_17.out)
    have Kw_17 := hid (Kw_16.out.step hb_17.out)
    have Kt_17 := hid (Kt_16.out.step hb_17.out)
    have Kg_17 := hid (Kg_16.out.step hb_17.out)
    have Lw_17 := hid (Lw_16.out.step hb_17.out)
    have Lg_17 := hid (Lg_16.out.step hb_17.out)
    have B_17 := hid (B_16.out.trans (hb_17.out.mono (by omega)))
    have z_17 : u16.heap.size ≤ u17.heap.size := hb_17.out.size
    clear Ka_16 Kw_16 Kt_16 Kg_16 Lw_16 Lg_16 B_16
    clear hb_17
    clear hb
    have Ly_17 := hid (Lg.of oy)
    clear oy
    go_wp2_with fail
    refine (GroupPropose_impl hR.out _ (Ly_17.out.ow.rdg (by omega) (by omega)) (by omega)).mono ?_
    rintro e u18 ⟨Ah, ch, Bh, dh, rfl, oh, hb⟩
    have hb_18 := hid hb
    have Ka_18 := hid (Ka_17.out.step hb_18.out)
    have Kw_18 := hid (Kw_17.out.step hb_18.out)
    have Kt_18 := hid (Kt_17.out.step hb_18.out)
    have Kg_18 := hid (Kg_17.out.step hb_18.out)
    have Lw_18 := hid (Lw_17.out.step hb_18.out)
    have Lg_18 := hid (Lg_17.out.step hb_18.out)
    have Ly_18 := hid (Ly_17.out.step hb_18.out)
    have B_18 := hid (B_17.out.trans (hb_18.out.mono (by omega)))
    have z_18 : u17.heap.size ≤ u18.heap.size := hb_18.out.size
    clear Ka_17 Kw_17 Kt_17 Kg_17 Lw_17 Lg_17 Ly_17 B_17
    clear hb_18
    clear hb
    have Lh_18 := hid (Lg.of oh)
    clear oh
    clear Ly_18
    go_upto_region 25 with (fail)
    obtain ⟨u19, hu⟩ : ∃ W, ((u18.alloc (.cells #[.int .i64 id', .int .i64 ck', .slice Ah P'.length ch, .slice Bh D'.length dh] 24)).alloc (.cells #[.int .i64 t', .int .i64 k'] 38)) = W := ⟨_, rfl⟩
    rw [hu]
    have hb : Below u18.heap.size u18 u19 := by rw [← hu]; exact below2 _ _ _
    have hch : Cs u19 (u18.heap.size) 24 #[.int .i64 id', .int .i64 ck', .slice Ah P'.length ch, .slice Bh D'.length dh] := by rw [← hu]; exact (Cs.new _ _ _).alloc _
    have hcz : Cs u19 (u18.heap.size + 1) 38 #[.int .i64 t', .int .i64 k'] := by rw [← hu]; exact Cs.new' _ _ _ (by simp)
    clear hu
    have hb_19 := hid hb
    have Ka_19 := hid (Ka_18.out.step hb_19.out)
    have Kw_19 := hid (Kw_18.out.step hb_19.out)
    have Kt_19 := hid (Kt_18.out.step hb_19.out)
    have Kg_19 := hid (Kg_18.out.step hb_19.out)
    have Lw_19 := hid (Lw_18.out.step hb_19.out)
    have Lg_19 := hid (Lg_18.out.step hb_19.out)
    have Lh_19 := hid (Lh_18.out.step hb_19.out)
    have B_19 := hid (B_18.out.trans (hb_19.out.mono (by omega)))
    have z_19 : u18.heap.size ≤ u19.heap.size := hb_19.out.size
    clear Ka_18 Kw_18 Kt_18 Kg_18 Lw_18 Lg_18 Lh_18 B_18
    clear hb_19
    clear hb
    have Kh_19 := hid hch
    have yh_19 : u18.heap.size < u19.heap.size := hch.lt
    clear hch
    have Kz_19 := hid hcz
    have yz_19 : u18.heap.size + 1 < u19.heap.size := hcz.lt
    clear hcz
    obtain ⟨qh0, qh1, qh2, qh3⟩ := Kh_19.out.four
    obtain ⟨qw0, qw1, qw2, qw3⟩ := Kw_19.out.four
    go_wp2_with fail
    refine (eqGroup_same id' ck' _ Lh_19.out.r1 Lh_19.out.r2 Lw_19.out.r1 Lw_19.out.r2 (by omega) (by omega)).mono ?_
    rintro e u20 ⟨rfl, hb⟩
    clear qh0 qh1 qh2 qh3 qw0 qw1 qw2 qw3
    have hb_20 := hid hb
    have Ka_20 := hid (Ka_19.out.step hb_20.out)
    have Kw_20 := hid (Kw_19.out.step hb_20.out)
    have Kt_20 := hid (Kt_19.out.step hb_20.out)
    have Kg_20 := hid (Kg_19.out.step hb_20.out)
    have Kh_20 := hid (Kh_19.out.step hb_20.out)
    have Kz_20 := hid (Kz_19.out.step hb_20.out)
    have Lw_20 := hid (Lw_19.out.step hb_20.out)
    have Lg_20 := hid (Lg_19.out.step hb_20.out)
    have Lh_20 := hid (Lh_19.out.step hb_20.out)
    have B_20 := hid (B_19.out.trans (hb_20.out.mono (by omega)))
    have z_20 : u19.heap.size ≤ u20.heap.size := hb_20.out.size
    clear Ka_19 Kw_19 Kt_19 Kg_19 Kh_19 Kz_19 Lw_19 Lg_19 Lh_19 B_19
    clear hb_20
    clear hb
    obtain ⟨qz0, qz1, -, -⟩ := Kz_20.out.two
    obtain ⟨qt0, qt1, -, -⟩ := Kt_20.out.two
    go_wp2_with fail
    refine (eqStamp_same t' k' _).mono ?_
    rintro e u21 ⟨rfl, hb⟩
    clear qz0 qz1 qt0 qt1
    have hb_21 := hid hb
    have Ka_21 := hid (Ka_20.out.step hb_21.out)
    have Kw_21 := hid (Kw_20.out.step hb_21.out)
    have Kt_21 := hid (Kt_20.out.step hb_21.out)
    have Kg_21 := hid (Kg_20.out.step hb_21.out)
    have Kh_21 := hid (Kh_20.out.step hb_21.out)
    have Kz_21 := hid (Kz_20.out.step hb_21.out)
    have Lw_21 := hid (Lw_20.out.step hb_21.out)
    have Lg_21 := hid (Lg_20.out.step hb_21.out)
    have Lh_21 := hid (Lh_20.out.step hb_21.out)
    have B_21 := hid (B_20.out.trans (hb_21.out.mono (by omega)))
    have z_21 : u20.heap.size ≤ u21.heap.size := hb_21.out.size
    clear Ka_20 Kw_20 Kt_20 Kg_20 Kh_20 Kz_20 Lw_20 Lg_20 Lh_20 B_20
    clear hb_21
    clear hb
    obtain ⟨qg0, qg1, qg2, qg3⟩ := Kg_21.out.four
    go_wp2_with fail
    refine (heldGroup_any id' ck' 1 _ Lg_21.out.r1 Lg_21.out.r2 (by omega) (by omega) (by omega) (by omega)).mono ?_
    rintro e u22 ⟨rfl, hb⟩
    clear qg0 qg1 qg2 qg3
    have hb_22 := hid hb
    have Ka_22 := hid (Ka_21.out.step hb_22.out)
    have Kw_22 := hid (Kw_21.out.step hb_22.out)
    have Kt_22 := hid (Kt_21.out.step hb_22.out)
    have Kg_22 := hid (Kg_21.out.step hb_22.out)
    have Kh_22 := hid (Kh_21.out.step hb_22.out)
    have Kz_22 := hid (Kz_21.out.step hb_22.out)
    have Lw_22 := hid (Lw_21.out.step hb_22.out)
    have Lg_22 := hid (Lg_21.out.step hb_22.out)
    have Lh_22 := hid (Lh_21.out.step hb_22.out)
    have B_22 := hid (B_21.out.trans (hb_22.out.mono (by omega)))
    have z_22 : u21.heap.size ≤ u22.heap.size := hb_22.out.size
    clear Ka_21 Kw_21 Kt_21 Kg_21 Kh_21 Kz_21 Lw_21 Lg_21 Lh_21 B_21
    clear hb_22
    clear hb
    go_wp2
    go_ret
    exact ⟨rfl, B_22.out⟩
  · have hz : (if n + m ≤ 1048576 then 1048576 - (n : Int) - (m : Int) else -1) = -1 := if_neg hbig
    replace hz := hid hz
    obtain ⟨qa0, qa1, qa2, qa3⟩ := Ka_0.out.four
    go_enter Try.func5, Try.ntmps5
    go_upto_region 2 with (fail)
    rw [hu0.out]
    go_wp2_with fail
    refine (szGroup_any i k _ (by omega) (by omega) hz.out).mono ?_
    rintro e w1 ⟨rfl, hb⟩
    have hB := hid (B_0.out.trans (hb.mono (by omega)))
    clear hb
    go_wp2
    go_ret
    exact ⟨rfl, hB.out⟩

end Go.Proofs.Ytefpekehlmnnlaa
