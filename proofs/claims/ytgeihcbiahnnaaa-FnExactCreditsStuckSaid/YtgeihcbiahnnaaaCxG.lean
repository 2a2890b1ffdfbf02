/-
  The walks of the exact laws of CreditsNew: the law returns true and writes nothing that was there. No condition.
-/
import Derived.Test.YtgeihcbiahnnaaaCxD
import Derived.Test.YtgeihcbiahnnaaaCxF
import Derived.Test.YtgeihcbiahnnaaaCeG
import Derived.Deep.CutBlock
import Derived.Deep.RegionLaw
import Derived.Deep.RegionHeld3
import Derived.Deep.DeepCutAuto
namespace Go.Proofs.Ytgeihcbiahnnaaa
open Go.RowKit
set_option linter.unusedVariables false
set_option linter.unusedSimpArgs false

theorem crNew_sm {fr : List Int} {s : Int} {o : Cr} {ok : Bool} (h : crNew fr s = (o, ok)) (hf : fr.length ≤ 1048576) : Sm o := by
  unfold crNew at h
  split at h
  · rename_i h1
    rw [Bool.and_eq_true] at h1
    have h2 := inB_true.1 h1.2
    injection h with h _
    subst h
    refine ⟨hf, by simp; omega, fun x hx => ?_⟩
    rw [List.eq_of_mem_replicate hx]; simp
  · injection h with h _
    subst h
    exact ⟨by simp [cr0], by simp [cr0], fun x hx => by simp [cr0] at hx⟩
/-- what a call that makes credits hands back, laid open -/
def CrPostX2 (o : Cr) (ok : Bool) (w : World) (e : Ending) (w' : World) : Prop := ∃ A1 c1 A2 c2 vals, e = .returned (.tuple #[crV (.slice A1 o.fr.length c1) (.slice A2 o.hs.length c2), .bool ok]) ∧ OwC w' w.heap.size (.slice A1 o.fr.length c1) (.slice A2 o.hs.length c2) vals o ∧ Below w.heap.size w w'

theorem CrPost2.x {r : Cr × Bool} {o : Cr} {ok : Bool} (hr : r = (o, ok)) {w : World} {e : Ending} {w' : World} (h : CrPost2 r w e w') : CrPostX2 o ok w e w' := by
  subst hr
  obtain ⟨F, H, vals, h1, h2, h3⟩ := h
  obtain ⟨A1, c1, e1⟩ := own_form h2.f
  obtain ⟨A2, c2, e2⟩ := own_form h2.h
  subst e1; subst e2
  exact ⟨A1, c1, A2, c2, vals, h1, h2, h3⟩

theorem CreditsNew_sx {A : Option Addr} {n c : Nat} {fr : List Int} {s : Int} {o : Cr} {ok : Bool} (h : crNew fr s = (o, ok)) (w : World) (hr : RdI w w.heap.size A n fr) (hn : n < 1099511627776) :
    Calls Try.prog 9 #[.slice A n c, .int .i64 s] w (CrPostX2 o ok w) := (CreditsNew_spec s w hr hn).mono fun e w' q => q.x h

theorem CreditsNew_ix {A : Option Addr} {n c : Nat} {fr : List Int} {s : Int} {o : Cr} {ok : Bool} (h : crNew fr s = (o, ok)) (w : World) (hr : RdI w w.heap.size A n fr) (hn : n < 1099511627776) :
    Calls Try.prog 11 #[.slice A n c, .int .i64 s] w (CrPostX2 o ok w) := (CreditsNew_impl s w hr hn).mono fun e w' q => q.x h

set_option maxRecDepth 100000 in
set_option maxHeartbeats 16000000 in
theorem exCreditsNew_at {n c : Nat} {A : Option Addr} {gs : List Int} (snd : Int) (w u0 : World) (h1 : RdI w w.heap.size A n gs) (hn : n ≤ maxLen) (h0 : Below w.heap.size w u0) (z_0 : w.heap.size ≤ u0.heap.size) :
    Calls Try.prog 3 #[.slice A n c, .int .i64 snd] u0 fun e w' => e = .returned (.bool true) ∧ Below w.heap.size w w' := by
  unfold maxLen at hn
  obtain rfl := h1.len
  have hx1 := hid h1
  have B_0 := hid h0
  clear h1 h0
  by_cases hbig : gs.length ≤ 1048576
  · have hnn : gs.length < 1099511627776 := by omega
    have hgt : ¬ ((gs.length : Int) > 1048576) := by omega
    obtain ⟨o, ok, hR⟩ : ∃ o ok, crNew gs snd = (o, ok) := ⟨_, _, rfl⟩
    have so := hid (crNew_sm hR hbig)
    replace hR := hid hR
    have q1 := so.out.f
    have q2 := so.out.h
    have hbb : (ok != ok) = false := by cases ok <;> rfl
    obtain ⟨z, hz⟩ : ∃ z, endC 1 o = z := ⟨_, rfl⟩
    have hz0 : ¬ (z < 0) := by rw [← hz]; have := (endC_bd (k := 1) (by omega) so.out).1; omega
    have hzz : (z != z) = false := by simp
    replace hz := hid hz
    go_enter Try.func3, Try.ntmps3
    go_wp2_with fail
    refine (toIntS_any _ ((Reads.below hx1.out B_0.out).more B_0.out.size) hnn).mono ?_
    rintro e u1 ⟨vp, rfl, op, hb⟩
    obtain ⟨Ap, cp, rfl, -⟩ := op.rd (Nat.le_refl _)
    have hb_1 := hid hb
    have B_1 := hid (B_0.out.trans (hb_1.out.mono (by omega)))
    have z_1 : u0.heap.size ≤ u1.heap.size := hb_1.out.size
    clear  B_0
    clear hb_1
    clear hb
    have Np_1 := hid (Lv.of op)
    clear op
    go_wp2_with fail
    refine (CreditsNew_sx hR.out _ Np_1.out.at_ hnn).mono ?_
    rintro e u2 ⟨Aw, cw, Bw, dw, vw, rfl, ow, hb⟩
    have hb_2 := hid hb
    have Np_2 := hid (Np_1.out.step hb_2.out)
    have B_2 := hid (B_1.out.trans (hb_2.out.mono (by omega)))
    have z_2 : u1.heap.size ≤ u2.heap.size := hb_2.out.size
    clear Np_1 B_1
    clear hb_2
    clear hb
    have Lw_2 := hid (Lc.of ow)
    clear ow
    clear Np_2
    go_upto_region 4 with (fail)
    obtain ⟨u3, hu⟩ : ∃ W, (u2.alloc (.cells #[.slice Aw o.fr.length cw, .slice Bw o.hs.length dw] 25)) = W := ⟨_, rfl⟩
    rw [hu]
    have hb : Below u2.heap.size u2 u3 := by rw [← hu]; exact below1 _ _
    have hcw : Cs u3 (u2.heap.size) 25 #[.slice Aw o.fr.length cw, .slice Bw o.hs.length dw] := by rw [← hu]; exact Cs.new _ _ _
    clear hu
    have hb_3 := hid hb
    have Lw_3 := hid (Lw_2.out.step hb_3.out)
    have B_3 := hid (B_2.out.trans (hb_3.out.mono (by omega)))
    have z_3 : u2.heap.size ≤ u3.heap.size := hb_3.out.size
    clear Lw_2 B_2
    clear hb_3
    clear hb
    have Kw_3 := hid hcw
    have yw_3 : u2.heap.size < u3.heap.size := hcw.lt
    clear hcw
    go_wp2_with fail
    refine (toIntS_any _ ((Reads.below hx1.out B_3.out).more B_3.out.size) hnn).mono ?_
    rintro e u4 ⟨vx, rfl, ox, hb⟩
    obtain ⟨Ax, cx, rfl, -⟩ := ox.rd (Nat.le_refl _)
    have hb_4 := hid hb
    have Kw_4 := hid (Kw_3.out.step hb_4.out)
    have Lw_4 := hid (Lw_3.out.step hb_4.out)
    have B_4 := hid (B_3.out.trans (hb_4.out.mono (by omega)))
    have z_4 : u3.heap.size ≤ u4.heap.size := hb_4.out.size
    clear Kw_3 Lw_3 B_3
    clear hb_4
    clear hb
    have Nx_4 := hid (Lv.of ox)
    clear ox
    go_wp2_with fail
    refine (CreditsNew_ix hR.out _ Nx_4.out.at_ hnn).mono ?_
    rintro e u5 ⟨Ag, cg, Bg, dg, vg, rfl, og, hb⟩
    have hb_5 := hid hb
    have Kw_5 := hid (Kw_4.out.step hb_5.out)
    have Lw_5 := hid (Lw_4.out.step hb_5.out)
    have Nx_5 := hid (Nx_4.out.step hb_5.out)
    have B_5 := hid (B_4.out.trans (hb_5.out.mono (by omega)))
    have z_5 : u4.heap.size ≤ u5.heap.size := hb_5.out.size
    clear Kw_4 Lw_4 Nx_4 B_4
    clear hb_5
    clear hb
    have Lg_5 := hid (Lc.of og)
    clear og
    go_upto_region 6 with (fail)
    obtain ⟨u6, hu⟩ : ∃ W, (u5.alloc (.cells #[.slice Ag o.fr.length cg, .slice Bg o.hs.length dg] 25)) = W := ⟨_, rfl⟩
    rw [hu]
    have hb : Below u5.heap.size u5 u6 := by rw [← hu]; exact below1 _ _
    have hcg : Cs u6 (u5.heap.size) 25 #[.slice Ag o.fr.length cg, .slice Bg o.hs.length dg] := by rw [← hu]; exact Cs.new _ _ _
    clear hu
    have hb_6 := hid hb
    have Kw_6 := hid (Kw_5.out.step hb_6.out)
    have Lw_6 := hid (Lw_5.out.step hb_6.out)
    have Lg_6 := hid (Lg_5.out.step hb_6.out)
    have Nx_6 := hid (Nx_5.out.step hb_6.out)
    have B_6 := hid (B_5.out.trans (hb_6.out.mono (by omega)))
    have z_6 : u5.heap.size ≤ u6.heap.size := hb_6.out.size
    clear Kw_5 Lw_5 Lg_5 Nx_5 B_5
    clear hb_6
    clear hb
    have Kg_6 := hid hcg
    have yg_6 : u5.heap.size < u6.heap.size := hcg.lt
    clear hcg
    obtain ⟨qg0, qg1⟩ := Kg_6.out.c2
    obtain ⟨qw0, qw1⟩ := Kw_6.out.c2
    go_wp2_with fail
    refine (eqCredits_same _ (Lg_6.out.rd so.out) (Lw_6.out.rd so.out)).mono ?_
    rintro e u7 ⟨rfl, hb⟩
    clear qg0 qg1 qw0 qw1
    have hb_7 := hid hb
    have Kw_7 := hid (Kw_6.out.step hb_7.out)
    have Kg_7 := hid (Kg_6.out.step hb_7.out)
    have Lw_7 := hid (Lw_6.out.step hb_7.out)
    have Lg_7 := hid (Lg_6.out.step hb_7.out)
    have Nx_7 := hid (Nx_6.out.step hb_7.out)
    have B_7 := hid (B_6.out.trans (hb_7.out.mono (by omega)))
    have z_7 : u6.heap.size ≤ u7.heap.size := hb_7.out.size
    clear Kw_6 Kg_6 Lw_6 Lg_6 Nx_6 B_6
    clear hb_7
    clear hb
    go_wp2_with fail
    refine (toIntS_any _ ((Reads.below hx1.out B_7.out).more B_7.out.size) hnn).mono ?_
    rintro e u8 ⟨vy, rfl, oy, hb⟩
    obtain ⟨Ay, cy, rfl, -⟩ := oy.rd (Nat.le_refl _)
    have hb_8 := hid hb
    have Kw_8 := hid (Kw_7.out.step hb_8.out)
    have Kg_8 := hid (Kg_7.out.step hb_8.out)
    have Lw_8 := hid (Lw_7.out.step hb_8.out)
    have Lg_8 := hid (Lg_7.out.step hb_8.out)
    have Nx_8 := hid (Nx_7.out.step hb_8.out)
    have B_8 := hid (B_7.out.trans (hb_8.out.mono (by omega)))
    have z_8 : u7.heap.size ≤ u8.heap.size := hb_8.out.size
    clear Kw_7 Kg_7 Lw_7 Lg_7 Nx_7 B_7
    clear hb_8
    clear hb
    have Ny_8 := hid (Lv.of oy)
    clear oy
    go_wp2_with fail
    refine (eqIntS_any _ Nx_8.out.at_ Ny_8.out.at_ (by omega) (by omega)).mono ?_
    rw [sameB_self]
    rintro e u9 ⟨rfl, hq⟩
    have hb_9 := hid (hq.below u8.heap.size)
    have Kw_9 := hid (Kw_8.out.step hb_9.out)
    have Kg_9 := hid (Kg_8.out.step hb_9.out)
    have Lw_9 := hid (Lw_8.out.step hb_9.out)
    have Lg_9 := hid (Lg_8.out.step hb_9.out)
    have Nx_9 := hid (Nx_8.out.step hb_9.out)
    have Ny_9 := hid (Ny_8.out.step hb_9.out)
    have B_9 := hid (B_8.out.trans (hb_9.out.mono (by omega)))
    have z_9 : u8.heap.size ≤ u9.heap.size := hb_9.out.size
    clear Kw_8 Kg_8 Lw_8 Lg_8 Nx_8 Ny_8 B_8
    clear hb_9
    clear hq
    clear Ny_9
    go_wp2_with fail
    refine (markIntS_lv 1 _ Nx_9.out (by omega) (by omega) (by omega)).mono ?_
    rintro e u10 ⟨rfl, hL, hG, -⟩
    have hK : Kp (fun b => u3.heap.size ≤ b ∧ b < u4.heap.size) u9 u10 := ((Kp.refl (fun b => (Value.slice Ax gs.length cx).ownBlock = some b) _).grown hG (fun j e => .inr e)).mono (fun b hb => ⟨(Nx_9.out.1.1.lt b hb).1, Nx_9.out.1.2 b hb⟩)
    have hk_10 := hid hK
    have z_10 : u9.heap.size ≤ u10.heap.size := hk_10.out.size
    have Kw_10 := hid (Kw_9.out.kp hk_10.out (fun (h : u3.heap.size ≤ u2.heap.size ∧ u2.heap.size < u4.heap.size) => by omega))
    have Kg_10 := hid (Kg_9.out.kp hk_10.out (fun (h : u3.heap.size ≤ u5.heap.size ∧ u5.heap.size < u4.heap.size) => by omega))
    have Lw_10 := hid (Lw_9.out.kp hk_10.out (fun b h1 h2 (h3 : u3.heap.size ≤ b ∧ b < u4.heap.size) => by omega))
    have Lg_10 := hid (Lg_9.out.kp hk_10.out (fun b h1 h2 (h3 : u3.heap.size ≤ b ∧ b < u4.heap.size) => by omega))
    have B_10 := hid (B_9.out.trans (hk_10.out.base (by omega) (fun b (h : u3.heap.size ≤ b ∧ b < u4.heap.size) => by omega)))
    clear Kw_9 Kg_9 Lw_9 Lg_9 Nx_9 B_9
    clear hk_10
    have Nx_10 := hid hL
    clear hL hG hK
    have gk : ¬ (1 + (gs.length : Int) < 0) := by omega
    obtain ⟨qg0, qg1⟩ := Kg_10.out.c2
    obtain ⟨qw0, qw1⟩ := Kw_10.out.c2
    go_wp2_with fail
    refine (eqCredits_same _ (Lg_10.out.rd so.out) (Lw_10.out.rd so.out)).mono ?_
    rintro e u11 ⟨rfl, hb⟩
    clear qg0 qg1 qw0 qw1
    have hb_11 := hid hb
    have Kw_11 := hid (Kw_10.out.step hb_11.out)
    have Kg_11 := hid (Kg_10.out.step hb_11.out)
    have Lw_11 := hid (Lw_10.out.step hb_11.out)
    have Lg_11 := hid (Lg_10.out.step hb_11.out)
    have Nx_11 := hid (Nx_10.out.step hb_11.out)
    have B_11 := hid (B_10.out.trans (hb_11.out.mono (by omega)))
    have z_11 : u10.heap.size ≤ u11.heap.size := hb_11.out.size
    clear Kw_10 Kg_10 Lw_10 Lg_10 Nx_10 B_10
    clear hb_11
    clear hb
    clear Nx_11
    obtain ⟨qg0, qg1⟩ := Kg_11.out.c2
    go_wp2_with fail
    refine (markCredits_any 1 _ Lg_11.out so.out (by omega) (by omega)).mono ?_
    rw [hz.out]
    rintro e u12 ⟨rfl, hL, hK⟩
    clear qg0 qg1
    have hk_12 := hid hK
    have z_12 : u11.heap.size ≤ u12.heap.size := hk_12.out.size
    have Kw_12 := hid (Kw_11.out.kp hk_12.out (fun (h : u4.heap.size ≤ u2.heap.size ∧ u2.heap.size < u5.heap.size) => by omega))
    have Kg_12 := hid (Kg_11.out.kp hk_12.out (fun (h : u4.heap.size ≤ u5.heap.size ∧ u5.heap.size < u5.heap.size) => by omega))
    have Lw_12 := hid (Lw_11.out.kp hk_12.out (fun b h1 h2 (h3 : u4.heap.size ≤ b ∧ b < u5.heap.size) => by omega))
    have B_12 := hid (B_11.out.trans (hk_12.out.base (by omega) (fun b (h : u4.heap.size ≤ b ∧ b < u5.heap.size) => by omega)))
    clear Kw_11 Kg_11 Lw_11 Lg_11 B_11
    clear hk_12
    have Lg_12 := hid hL
    clear hL hK
    obtain ⟨qg0, qg1⟩ := Kg_12.out.c2
    go_wp2_with fail
    refine (heldCredits_any 1 _ (Lg_12.out.rd (mkC_sm so.out)) so.out (by omega) (by omega)).mono ?_
    rw [hz.out]
    rintro e u13 ⟨rfl, hb⟩
    clear qg0 qg1
    have hb_13 := hid hb
    have Kw_13 := hid (Kw_12.out.step hb_13.out)
    have Kg_13 := hid (Kg_12.out.step hb_13.out)
    have Lw_13 := hid (Lw_12.out.step hb_13.out)
    have Lg_13 := hid (Lg_12.out.step hb_13.out)
    have B_13 := hid (B_12.out.trans (hb_13.out.mono (by omega)))
    have z_13 : u12.heap.size ≤ u13.heap.size := hb_13.out.size
    clear Kw_12 Kg_12 Lw_12 Lg_12 B_12
    clear hb_13
    clear hb
    go_wp2_with fail
    refine (toIntS_any _ ((Reads.below hx1.out B_13.out).more B_13.out.size) hnn).mono ?_
    rintro e u14 ⟨vv, rfl, ov, hb⟩
    obtain ⟨Av, cv, rfl, -⟩ := ov.rd (Nat.le_refl _)
    have hb_14 := hid hb
    have Kw_14 := hid (Kw_13.out.step hb_14.out)
    have Kg_14 := hid (Kg_13.out.step hb_14.out)
    have Lw_14 := hid (Lw_13.out.step hb_14.out)
    have Lg_14 := hid (Lg_13.out.step hb_14.out)
    have B_14 := hid (B_13.out.trans (hb_14.out.mono (by omega)))
    have z_14 : u13.heap.size ≤ u14.heap.size := hb_14.out.size
    clear Kw_13 Kg_13 Lw_13 Lg_13 B_13
    clear hb_14
    clear hb
    have Nv_14 := hid (Lv.of ov)
    clear ov
    go_wp2_with fail
    refine (CreditsNew_ix hR.out _ Nv_14.out.at_ hnn).mono ?_
    rintro e u15 ⟨Ah, ch, Bh, dh, vh, rfl, oh, hb⟩
    have hb_15 := hid hb
    have Kw_15 := hid (Kw_14.out.step hb_15.out)
    have Kg_15 := hid (Kg_14.out.step hb_15.out)
    have Lw_15 := hid (Lw_14.out.step hb_15.out)
    have Lg_15 := hid (Lg_14.out.step hb_15.out)
    have Nv_15 := hid (Nv_14.out.step hb_15.out)
    have B_15 := hid (B_14.out.trans (hb_15.out.mono (by omega)))
    have z_15 : u14.heap.size ≤ u15.heap.size := hb_15.out.size
    clear Kw_14 Kg_14 Lw_14 Lg_14 Nv_14 B_14
    clear hb_15
    clear hb
    have Lh_15 := hid (Lc.of oh)
    clear oh
    clear Nv_15
    go_upto_region 23 with (fail)
    obtain ⟨u16, hu⟩ : ∃ W, (u15.alloc (.cells #[.slice Ah o.fr.length ch, .slice Bh o.hs.length dh] 25)) = W := ⟨_, rfl⟩
    rw [hu]
    have hb : Below u15.heap.size u15 u16 := by rw [← hu]; exact below1 _ _
    have hch : Cs u16 (u15.heap.size) 25 #[.slice Ah o.fr.length ch, .slice Bh o.hs.length dh] := by rw [← hu]; exact Cs.new _ _ _
    clear hu
    have hb_16 := hid hb
    have Kw_16 := hid (Kw_15.out.step hb_16.out)
    have Kg_16 := hid (Kg_15.out.step hb_16.out)
    have Lw_16 := hid (Lw_15.out.step hb_16.out)
    have Lg_16 := hid (Lg_15.out.step hb_16.out)
    have Lh_16 := hid (Lh_15.out.step hb_16.out)
    have B_16 := hid (B_15.out.trans (hb_16.out.mono (by omega)))
    have z_16 : u15.heap.size ≤ u16.heap.size := hb_16.out.size
    clear Kw_15 Kg_15 Lw_15 Lg_15 Lh_15 B_15
    clear hb_16
    clear hb
    have Kh_16 := hid hch
    have yh_16 : u15.heap.size < u16.heap.size := hch.lt
    clear hch
    obtain ⟨qh0, qh1⟩ := Kh_16.out.c2
    obtain ⟨qw0, qw1⟩ := Kw_16.out.c2
    go_wp2_with fail
    refine (eqCredits_same _ (Lh_16.out.rd so.out) (Lw_16.out.rd so.out)).mono ?_
    rintro e u17 ⟨rfl, hb⟩
    clear qh0 qh1 qw0 qw1
    have hb_17 := hid hb
    have Kw_17 := hid (Kw_16.out.step hb_17.out)
    have Kg_17 := hid (Kg_16.out.step hb_17.out)
    have Kh_17 := hid (Kh_16.out.step hb_17.out)
    have Lw_17 := hid (Lw_16.out.step hb_17.out)
    have Lg_17 := hid (Lg_16.out.step hb_17.out)
    have Lh_17 := hid (Lh_16.out.step hb_17.out)
    have B_17 := hid (B_16.out.trans (hb_17.out.mono (by omega)))
    have z_17 : u16.heap.size ≤ u17.heap.size := hb_17.out.size
    clear Kw_16 Kg_16 Kh_16 Lw_16 Lg_16 Lh_16 B_16
    clear hb_17
    clear hb
    obtain ⟨qg0, qg1⟩ := Kg_17.out.c2
    go_wp2_with fail
    refine (heldCredits_any 1 _ (Lg_17.out.rd (mkC_sm so.out)) so.out (by omega) (by omega)).mono ?_
    rw [hz.out]
    rintro e u18 ⟨rfl, hb⟩
    clear qg0 qg1
    have hb_18 := hid hb
    have Kw_18 := hid (Kw_17.out.step hb_18.out)
    have Kg_18 := hid (Kg_17.out.step hb_18.out)
    have Kh_18 := hid (Kh_17.out.step hb_18.out)
    have Lw_18 := hid (Lw_17.out.step hb_18.out)
    have Lg_18 := hid (Lg_17.out.step hb_18.out)
    have Lh_18 := hid (Lh_17.out.step hb_18.out)
    have B_18 := hid (B_17.out.trans (hb_18.out.mono (by omega)))
    have z_18 : u17.heap.size ≤ u18.heap.size := hb_18.out.size
    clear Kw_17 Kg_17 Kh_17 Lw_17 Lg_17 Lh_17 B_17
    clear hb_18
    clear hb
    go_wp2
    go_ret
    exact ⟨rfl, B_18.out⟩
  · have hgt : (gs.length : Int) > 1048576 := by omega
    go_enter Try.func3, Try.ntmps3
    go_wp2
    go_ret
    exact ⟨rfl, B_0.out⟩

theorem exCreditsNew {n c : Nat} {A : Option Addr} {gs : List Int} (snd : Int) (w : World) (h1 : RdI w w.heap.size A n gs) (hn : n ≤ maxLen) :
    Calls Try.prog 3 #[.slice A n c, .int .i64 snd] w fun e w' => e = .returned (.bool true) ∧ Below w.heap.size w w' := exCreditsNew_at snd w w h1 hn (Below.refl _ _) (Nat.le_refl _)
end Go.Proofs.Ytgeihcbiahnnaaa
