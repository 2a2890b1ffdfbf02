/-
  The walks of the exact laws of StoreValid, StorePart: the law returns true and writes nothing that was there. No condition.
-/
import Derived.Test.YthnkilacknoklaaSvB
import Derived.Test.YthnkilacknoklaaSvC
import Derived.Deep.CutBlock
import Derived.Deep.RegionLaw
import Derived.Deep.RegionHeld3
import Derived.Deep.DeepCutAuto
namespace Go.Proofs.Ythnkilacknoklaa
open Go.RowKit
set_option linter.unusedVariables false
set_option linter.unusedSimpArgs false


section
variable {A : Option Addr} {n c : Nat} {zs Z : List Int} {g : Int} {R : Bool}

theorem StoreValid_sE (hR : vst zs = R) (w : World) (h : RdI w w.heap.size A n zs) (hn : n < 1099511627776) : Calls Try.prog 10 #[.slice A n c] w fun e w' => e = .returned (.bool R) ∧ w = w' := by
  subst hR; exact StoreValid_spec w h hn

theorem StoreValid_iE (hR : vst zs = R) (w : World) (h : RdI w w.heap.size A n zs) (hn : n < 1099511627776) : Calls Try.prog 12 #[.slice A n c] w fun e w' => e = .returned (.bool R) ∧ Below w.heap.size w w' := by
  subst hR; exact StoreValid_impl w h hn

theorem StorePart_sE (hR : partR zs g = Z) (w : World) (h : RdI w w.heap.size A n zs) (hn : n < 1099511627776) : Calls Try.prog 35 #[.slice A n c, .int .i64 g] w (NewS w Z) := by
  subst hR; exact (StorePart_spec g w h hn).mono fun _ _ h => NewS.of h

theorem StorePart_iE (hR : partR zs g = Z) (w : World) (h : RdI w w.heap.size A n zs) (hn : n < 1099511627776) : Calls Try.prog 36 #[.slice A n c, .int .i64 g] w (NewS w Z) := by
  subst hR; exact (StorePart_impl g w h hn).mono fun _ _ h => NewS.of h
end

theorem partR_len {zs Z : List Int} {g : Int} (h : partR zs g = Z) : Z.length ≤ 3 := by
  rw [← h]
  unfold partR
  split
  · exact Nat.le_refl _
  · exact Nat.zero_le _

set_option maxRecDepth 100000 in
set_option maxHeartbeats 16000000 in
theorem exStoreValid {l c0 : Nat} {A0 : Option Addr} {zs : List Int} (w : World) (h0 : RdI w w.heap.size A0 l zs) (hl : l ≤ maxLen) :
    Calls Try.prog 3 #[.slice A0 l c0] w fun e w' => e = .returned (.bool true) ∧ Below w.heap.size w w' := by
  unfold maxLen at hl
  obtain rfl := h0.len
  have hx0 := hid h0
  clear h0
  obtain ⟨u0, hu0⟩ : ∃ W, w = W := ⟨_, rfl⟩
  have B_0 := hid (show Below w.heap.size w u0 by rw [← hu0]; exact Below.refl _ _)
  have z_0 : w.heap.size ≤ u0.heap.size := B_0.out.size
  replace hu0 := hid hu0
  by_cases hbz : zs.length ≤ 1048576
  · have hgz : ¬ ((zs.length : Int) > 1048576) := by omega
    have hn0 : zs.length < 1099511627776 := by omega
    obtain ⟨R, hR⟩ : ∃ R, vst zs = R := ⟨_, rfl⟩
    replace hR := hid hR
    go_enter Try.func3, Try.ntmps3
    go_upto_region 1 with (fail)
    rw [hu0.out]
    go_wp2_with fail
    refine (toIntS_any _ ((Reads.below hx0.out B_0.out).more B_0.out.size) hn0).mono ?_
    rintro e u1 ⟨vp, rfl, op, hb⟩
    obtain ⟨Ap, cp, rfl, -⟩ := op.rd (Nat.le_refl _)
    have hb_1 := hid hb
    have B_1 := hid (B_0.out.trans (hb_1.out.mono (by omega)))
    have z_1 : u0.heap.size ≤ u1.heap.size := hb_1.out.size
    clear  B_0
    clear hb_1
    clear hb
    have Np_1 := hid (Lv.of op)
    clear op
    go_wp2_with fail
    refine (StoreValid_sE hR.out _ Np_1.out.at_ hn0).mono ?_
    rintro e w_ ⟨rfl, rfl⟩
    clear Np_1
    go_wp2_with fail
    refine (toIntS_any _ ((Reads.below hx0.out B_1.out).more B_1.out.size) hn0).mono ?_
    rintro e u2 ⟨vx, rfl, ox, hb⟩
    obtain ⟨Ax, cx, rfl, -⟩ := ox.rd (Nat.le_refl _)
    have hb_2 := hid hb
    have B_2 := hid (B_1.out.trans (hb_2.out.mono (by omega)))
    have z_2 : u1.heap.size ≤ u2.heap.size := hb_2.out.size
    clear  B_1
    clear hb_2
    clear hb
    have Nx_2 := hid (Lv.of ox)
    clear ox
    go_wp2_with fail
    refine (StoreValid_iE hR.out _ Nx_2.out.at_ hn0).mono ?_
    rintro e u3 ⟨rfl, hb⟩
    have hb_3 := hid hb
    have Nx_3 := hid (Nx_2.out.step hb_3.out)
    have B_3 := hid (B_2.out.trans (hb_3.out.mono (by omega)))
    have z_3 : u2.heap.size ≤ u3.heap.size := hb_3.out.size
    clear Nx_2 B_2
    clear hb_3
    clear hb
    have hbb : (R != R) = false := by cases R <;> rfl
    go_wp2_with fail
    refine (toIntS_any _ ((Reads.below hx0.out B_3.out).more B_3.out.size) hn0).mono ?_
    rintro e u4 ⟨vy, rfl, oy, hb⟩
    obtain ⟨Ay, cy, rfl, -⟩ := oy.rd (Nat.le_refl _)
    have hb_4 := hid hb
    have Nx_4 := hid (Nx_3.out.step hb_4.out)
    have B_4 := hid (B_3.out.trans (hb_4.out.mono (by omega)))
    have z_4 : u3.heap.size ≤ u4.heap.size := hb_4.out.size
    clear Nx_3 B_3
    clear hb_4
    clear hb
    have Ny_4 := hid (Lv.of oy)
    clear oy
    go_wp2_with fail
    refine (eqIntS_any _ Nx_4.out.at_ Ny_4.out.at_ (by omega) (by omega)).mono ?_
    rw [sameB_self]
    rintro e u5 ⟨rfl, hq⟩
    have hb_5 := hid (hq.below u4.heap.size)
    have Nx_5 := hid (Nx_4.out.step hb_5.out)
    have Ny_5 := hid (Ny_4.out.step hb_5.out)
    have B_5 := hid (B_4.out.trans (hb_5.out.mono (by omega)))
    have z_5 : u4.heap.size ≤ u5.heap.size := hb_5.out.size
    clear Nx_4 Ny_4 B_4
    clear hb_5
    clear hq
    go_wp2
    go_ret
    exact ⟨rfl, B_5.out⟩
  · have hgz : (zs.length : Int) > 1048576 := by omega
    go_enter Try.func3, Try.ntmps3
    go_wp2
    go_ret
    exact ⟨rfl, Below.refl _ _⟩

set_option maxRecDepth 100000 in
set_option maxHeartbeats 16000000 in
theorem exStorePart {l c0 : Nat} {A0 : Option Addr} {zs : List Int} (g : Int) (w : World) (h0 : RdI w w.heap.size A0 l zs) (hl : l ≤ maxLen) :
    Calls Try.prog 8 #[.slice A0 l c0, .int .i64 g] w fun e w' => e = .returned (.bool true) ∧ Below w.heap.size w w' := by
  unfold maxLen at hl
  obtain rfl := h0.len
  have hx0 := hid h0
  clear h0
  obtain ⟨u0, hu0⟩ : ∃ W, w = W := ⟨_, rfl⟩
  have B_0 := hid (show Below w.heap.size w u0 by rw [← hu0]; exact Below.refl _ _)
  have z_0 : w.heap.size ≤ u0.heap.size := B_0.out.size
  replace hu0 := hid hu0
  by_cases hbz : zs.length ≤ 1048576
  · have hgz : ¬ ((zs.length : Int) > 1048576) := by omega
    have hn0 : zs.length < 1099511627776 := by omega
    obtain ⟨Z, hR⟩ : ∃ Z, partR zs g = Z := ⟨_, rfl⟩
    have hZl := partR_len hR
    replace hR := hid hR
    go_enter Try.func8, Try.ntmps8
    go_upto_region 1 with (fail)
    rw [hu0.out]
    go_wp2_with fail
    refine (toIntS_any _ ((Reads.below hx0.out B_0.out).more B_0.out.size) hn0).mono ?_
    rintro e u1 ⟨vp, rfl, op, hb⟩
    obtain ⟨Ap, cp, rfl, -⟩ := op.rd (Nat.le_refl _)
    have hb_1 := hid hb
    have B_1 := hid (B_0.out.trans (hb_1.out.mono (by omega)))
    have z_1 : u0.heap.size ≤ u1.heap.size := hb_1.out.size
    clear  B_0
    clear hb_1
    clear hb
    have Np_1 := hid (Lv.of op)
    clear op
    go_wp2_with fail
    refine (StorePart_sE hR.out _ Np_1.out.at_ hn0).mono ?_
    rintro e u2 ⟨At, ct, rfl, ot, hb⟩
    have hb_2 := hid hb
    have Np_2 := hid (Np_1.out.step hb_2.out)
    have B_2 := hid (B_1.out.trans (hb_2.out.mono (by omega)))
    have z_2 : u1.heap.size ≤ u2.heap.size := hb_2.out.size
    clear Np_1 B_1
    clear hb_2
    clear hb
    have Nt_2 := hid (Lv.ofI ot)
    clear ot
    clear Np_2
    go_wp2_with fail
    refine (toIntS_any _ ((Reads.below hx0.out B_2.out).more B_2.out.size) hn0).mono ?_
    rintro e u3 ⟨vx, rfl, ox, hb⟩
    obtain ⟨Ax, cx, rfl, -⟩ := ox.rd (Nat.le_refl _)
    have hb_3 := hid hb
    have Nt_3 := hid (Nt_2.out.step hb_3.out)
    have B_3 := hid (B_2.out.trans (hb_3.out.mono (by omega)))
    have z_3 : u2.heap.size ≤ u3.heap.size := hb_3.out.size
    clear Nt_2 B_2
    clear hb_3
    clear hb
    have Nx_3 := hid (Lv.of ox)
    clear ox
    go_wp2_with fail
    refine (StorePart_iE hR.out _ Nx_3.out.at_ hn0).mono ?_
    rintro e u4 ⟨Ag, cg, rfl, og, hb⟩
    have hb_4 := hid hb
    have Nt_4 := hid (Nt_3.out.step hb_4.out)
    have Nx_4 := hid (Nx_3.out.step hb_4.out)
    have B_4 := hid (B_3.out.trans (hb_4.out.mono (by omega)))
    have z_4 : u3.heap.size ≤ u4.heap.size := hb_4.out.size
    clear Nt_3 Nx_3 B_3
    clear hb_4
    clear hb
    have Ng_4 := hid (Lv.ofI og)
    clear og
    go_wp2_with fail
    refine (eqIntS_any _ Ng_4.out.at_ Nt_4.out.at_ (by omega) (by omega)).mono ?_
    rw [sameB_self]
    rintro e u5 ⟨rfl, hq⟩
    have hb_5 := hid (hq.below u4.heap.size)
    have Nt_5 := hid (Nt_4.out.step hb_5.out)
    have Nx_5 := hid (Nx_4.out.step hb_5.out)
    have Ng_5 := hid (Ng_4.out.step hb_5.out)
    have B_5 := hid (B_4.out.trans (hb_5.out.mono (by omega)))
    have z_5 : u4.heap.size ≤ u5.heap.size := hb_5.out.size
    clear Nt_4 Nx_4 Ng_4 B_4
    clear hb_5
    clear hq
    go_wp2_with fail
    refine (toIntS_any _ ((Reads.below hx0.out B_5.out).more B_5.out.size) hn0).mono ?_
    rintro e u6 ⟨vy, rfl, oy, hb⟩
    obtain ⟨Ay, cy, rfl, -⟩ := oy.rd (Nat.le_refl _)
    have hb_6 := hid hb
    have Nt_6 := hid (Nt_5.out.step hb_6.out)
    have Nx_6 := hid (Nx_5.out.step hb_6.out)
    have Ng_6 := hid (Ng_5.out.step hb_6.out)
    have B_6 := hid (B_5.out.trans (hb_6.out.mono (by omega)))
    have z_6 : u5.heap.size ≤ u6.heap.size := hb_6.out.size
    clear Nt_5 Nx_5 Ng_5 B_5
    clear hb_6
    clear hb
    have Ny_6 := hid (Lv.of oy)
    clear oy
    go_wp2_with fail
    refine (eqIntS_any _ Nx_6.out.at_ Ny_6.out.at_ (by omega) (by omega)).mono ?_
    rw [sameB_self]
    rintro e u7 ⟨rfl, hq⟩
    have hb_7 := hid (hq.below u6.heap.size)
    have Nt_7 := hid (Nt_6.out.step hb_7.out)
    have Nx_7 := hid (Nx_6.out.step hb_7.out)
    have Ng_7 := hid (Ng_6.out.step hb_7.out)
    have Ny_7 := hid (Ny_6.out.step hb_7.out)
    have B_7 := hid (B_6.out.trans (hb_7.out.mono (by omega)))
    have z_7 : u6.heap.size ≤ u7.heap.size := hb_7.out.size
    clear Nt_6 Nx_6 Ng_6 Ny_6 B_6
    clear hb_7
    clear hq
    clear Ny_7
    go_wp2_with fail
    refine (markIntS_lv 1 _ Nx_7.out (by omega) (by omega) (by omega)).mono ?_
    rintro e u8 ⟨rfl, hL, hG, -⟩
    have hK : Kp (fun b => u2.heap.size ≤ b ∧ b < u3.heap.size) u7 u8 := ((Kp.refl (fun b => (Value.slice Ax zs.length cx).ownBlock = some b) _).grown hG (fun j e => .inr e)).mono (fun b hb => ⟨(Nx_7.out.1.1.lt b hb).1, Nx_7.out.1.2 b hb⟩)
    have hk_8 := hid hK
    have z_8 : u7.heap.size ≤ u8.heap.size := hk_8.out.size
    have Nt_8 := hid (Nt_7.out.kp hk_8.out (fun b h1 h2 (h3 : u2.heap.size ≤ b ∧ b < u3.heap.size) => by omega))
    have Ng_8 := hid (Ng_7.out.kp hk_8.out (fun b h1 h2 (h3 : u2.heap.size ≤ b ∧ b < u3.heap.size) => by omega))
    have B_8 := hid (B_7.out.trans (hk_8.out.base (by omega) (fun b (h : u2.heap.size ≤ b ∧ b < u3.heap.size) => by omega)))
    clear Nt_7 Nx_7 Ng_7 B_7
    clear hk_8
    have Nx_8 := hid hL
    clear hL hG hK
    have gk : ¬ (1 + (zs.length : Int) < 0) := by omega
    go_wp2_with fail
    refine (eqIntS_any _ Ng_8.out.at_ Nt_8.out.at_ (by omega) (by omega)).mono ?_
    rw [sameB_self]
    rintro e u9 ⟨rfl, hq⟩
    have hb_9 := hid (hq.below u8.heap.size)
    have Nt_9 := hid (Nt_8.out.step hb_9.out)
    have Nx_9 := hid (Nx_8.out.step hb_9.out)
    have Ng_9 := hid (Ng_8.out.step hb_9.out)
    have B_9 := hid (B_8.out.trans (hb_9.out.mono (by omega)))
    have z_9 : u8.heap.size ≤ u9.heap.size := hb_9.out.size
    clear Nt_8 Nx_8 Ng_8 B_8
    clear hb_9
    clear hq
    clear Nx_9
    go_wp2_with fail
    refine (markIntS_lv 1 _ Ng_9.out (by omega) (by omega) (by omega)).mono ?_
    rintro e u10 ⟨rfl, hL, hG, -⟩
    have hK : Kp (fun b => u3.heap.size ≤ b ∧ b < u4.heap.size) u9 u10 := ((Kp.refl (fun b => (Value.slice Ag Z.length cg).ownBlock = some b) _).grown hG (fun j e => .inr e)).mono (fun b hb => ⟨(Ng_9.out.1.1.lt b hb).1, Ng_9.out.1.2 b hb⟩)
    have hk_10 := hid hK
    have z_10 : u9.heap.size ≤ u10.heap.size := hk_10.out.size
    have Nt_10 := hid (Nt_9.out.kp hk_10.out (fun b h1 h2 (h3 : u3.heap.size ≤ b ∧ b < u4.heap.size) => by omega))
    have B_10 := hid (B_9.out.trans (hk_10.out.base (by omega) (fun b (h : u3.heap.size ≤ b ∧ b < u4.heap.size) => by omega)))
    clear Nt_9 Ng_9 B_9
    clear hk_10
    have Ng_10 := hid hL
    clear hL hG hK
    have gm : ¬ (1 + (Z.length : Int) < 0) := by omega
    go_wp2_with fail
    refine (heldIntS_any 1 _ Ng_10.out.at_ (by omega) (by omega) (by omega)).mono ?_
    rintro e w_ ⟨rfl, rfl⟩
    go_wp2_with fail
    refine (toIntS_any _ ((Reads.below hx0.out B_10.out).more B_10.out.size) hn0).mono ?_
    rintro e u11 ⟨vy, rfl, oy, hb⟩
    obtain ⟨Ay, cy, rfl, -⟩ := oy.rd (Nat.le_refl _)
    have hb_11 := hid hb
    have Nt_11 := hid (Nt_10.out.step hb_11.out)
    have Ng_11 := hid (Ng_10.out.step hb_11.out)
    have B_11 := hid (B_10.out.trans (hb_11.out.mono (by omega)))
    have z_11 : u10.heap.size ≤ u11.heap.size := hb_11.out.size
    clear Nt_10 Ng_10 B_10
    clear hb_11
    clear hb
    have Ny_11 := hid (Lv.of oy)
    clear oy
    go_wp2_with fail
    refine (StorePart_iE hR.out _ Ny_11.out.at_ hn0).mono ?_
    rintro e u12 ⟨Ah, ch, rfl, oh, hb⟩
    have hb_12 := hid hb
    have Nt_12 := hid (Nt_11.out.step hb_12.out)
    have Ng_12 := hid (Ng_11.out.step hb_12.out)
    have Ny_12 := hid (Ny_11.out.step hb_12.out)
    have B_12 := hid (B_11.out.trans (hb_12.out.mono (by omega)))
    have z_12 : u11.heap.size ≤ u12.heap.size := hb_12.out.size
    clear Nt_11 Ng_11 Ny_11 B_11
    clear hb_12
    clear hb
    have Nh_12 := hid (Lv.ofI oh)
    clear oh
    clear Ny_12
    go_wp2_with fail
    refine (eqIntS_any _ Nh_12.out.at_ Nt_12.out.at_ (by omega) (by omega)).mono ?_
    rw [sameB_self]
    rintro e u13 ⟨rfl, hq⟩
    have hb_13 := hid (hq.below u12.heap.size)
    have Nt_13 := hid (Nt_12.out.step hb_13.out)
    have Ng_13 := hid (Ng_12.out.step hb_13.out)
    have Nh_13 := hid (Nh_12.out.step hb_13.out)
    have B_13 := hid (B_12.out.trans (hb_13.out.mono (by omega)))
    have z_13 : u12.heap.size ≤ u13.heap.size := hb_13.out.size
    clear Nt_12 Ng_12 Nh_12 B_12
    clear hb_13
    clear hq
    go_wp2_with fail
    refine (heldIntS_any 1 _ Ng_13.out.at_ (by omega) (by omega) (by omega)).mono ?_
    rintro e w_ ⟨rfl, rfl⟩
    go_wp2
    go_ret
    exact ⟨rfl, B_13.out⟩
  · have hgz : (zs.length : Int) > 1048576 := by omega
    go_enter Try.func8, Try.ntmps8
    go_wp2
    go_ret
    exact ⟨rfl, Below.refl _ _⟩

end Go.Proofs.Ythnkilacknoklaa
