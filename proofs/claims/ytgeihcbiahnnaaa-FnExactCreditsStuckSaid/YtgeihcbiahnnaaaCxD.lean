/-
  The walks of the exact laws of CreditsValid and CreditsOrdered: the law returns true and writes nothing that was there. No condition.
-/
import Derived.Test.YtgeihcbiahnnaaaCxC
import Derived.Test.YtgeihcbiahnnaaaCeF
import Derived.Test.YtgeihcbiahnnaaaCdK
import Derived.Deep.CutBlock
import Derived.Deep.RegionLaw
import Derived.Deep.RegionHeld3
import Derived.Deep.DeepCutAuto
namespace Go.Proofs.Ytgeihcbiahnnaaa
open Go.RowKit
set_option linter.unusedVariables false
set_option linter.unusedSimpArgs false

theorem Cs.c2 {w : World} {b : Nat} {T : TypeId} {a0 a1 : Value} (h : Cs w b T #[a0, a1]) : w.cell? ⟨b, 0, none⟩ = some a0 ∧ w.cell? ⟨b, 1, none⟩ = some a1 := ⟨h.cell 0, h.cell 1⟩

theorem CreditsOrdered_as {A1 A2 : Option Addr} {n1 n2 c1 c2 : Nat} {c : Cr} {r : Bool} (h : orB c = r) (w : World) (hr : RdC w A1 n1 A2 n2 c) :
    Calls Try.prog 28 #[crV (.slice A1 n1 c1) (.slice A2 n2 c2)] w fun e w' => e = .returned (.bool r) ∧ Below w.heap.size w w' := by
  subst h; exact CreditsOrdered_spec w hr

theorem CreditsOrdered_ias {A1 A2 : Option Addr} {n1 n2 c1 c2 : Nat} {c : Cr} {r : Bool} (h : orB c = r) (w : World) (hr : RdC w A1 n1 A2 n2 c) :
    Calls Try.prog 29 #[crV (.slice A1 n1 c1) (.slice A2 n2 c2)] w fun e w' => e = .returned (.bool r) ∧ Below w.heap.size w w' := by
  subst h; exact CreditsOrdered_impl w hr

set_option maxRecDepth 100000 in
set_option maxHeartbeats 16000000 in
theorem exCreditsValid {n c m d : Nat} {A B : Option Addr} {cr : Cr} (w : World) (hx : RdCX w A n B m cr) (hn : n ≤ maxLen) (hm : m ≤ maxLen) (hs : ∀ y ∈ cr.hs, y.1.length ≤ maxLen) :
    Calls Try.prog 4 #[crV (.slice A n c) (.slice B m d)] w fun e w' => e = .returned (.bool true) ∧ Below w.heap.size w w' := by
  unfold maxLen at hn hm hs
  have hs' := hid (show ∀ y ∈ cr.hs, y.1.length ≤ 9223372036854775807 from fun y hy => by have := hs y hy; omega)
  replace hx := hid hx
  obtain ⟨u0, hu0⟩ : ∃ W, w.alloc (.cells #[.slice A n c, .slice B m d] 36) = W := ⟨_, rfl⟩
  have B_0 := hid (show Below w.heap.size w u0 by rw [← hu0]; exact below1 _ _)
  have Ka_0 := hid (show Cs u0 w.heap.size 36 #[.slice A n c, .slice B m d] by rw [← hu0]; exact Cs.new _ _ _)
  have ya_0 : w.heap.size < u0.heap.size := Ka_0.out.lt
  replace hu0 := hid hu0
  clear hs
  obtain ⟨R, hR⟩ : ∃ R, crB cr = R := ⟨_, rfl⟩
  replace hR := hid hR
  go_enter Try.func4, Try.ntmps4
  go_upto_region 2 with (fail)
  rw [hu0.out]
  obtain ⟨qa0, qa1⟩ := Ka_0.out.c2
  go_wp2_with fail
  refine (szCredits_any _ (hx.out.below B_0.out) (by omega) (by omega) hs'.out).mono ?_
  rintro e u1 ⟨⟨r, rfl, hr⟩, hb⟩
  clear qa0 qa1
  have hb_1 := hid hb
  have Ka_1 := hid (Ka_0.out.step hb_1.out)
  have B_1 := hid (B_0.out.trans (hb_1.out.mono (by omega)))
  have z_1 : u0.heap.size ≤ u1.heap.size := hb_1.out.size
  clear Ka_0 B_0
  clear hb_1
  clear hb
  rcases hr with rfl | ⟨r0, r1, hsm⟩
  · go_wp2
    go_ret
    exact ⟨rfl, B_1.out⟩
  · have sm := hid hsm
    have gz : ¬ (r < 0) := by omega
    clear hsm
    obtain ⟨qa0, qa1⟩ := Ka_1.out.c2
    go_wp2_with fail
    refine (toCredits_any _ (hx.out.below B_1.out) sm.out).mono ?_
    rintro e u2 ⟨Ap, cp, Bp, dp, vp, rfl, op, hb⟩
    clear qa0 qa1
    have hb_2 := hid hb
    have Ka_2 := hid (Ka_1.out.step hb_2.out)
    have B_2 := hid (B_1.out.trans (hb_2.out.mono (by omega)))
    have z_2 : u1.heap.size ≤ u2.heap.size := hb_2.out.size
    clear Ka_1 B_1
    clear hb_2
    clear hb
    have Lp_2 := hid (Lc.of op)
    clear op
    go_wp2_with fail
    refine (CreditsValid_as hR.out _ (Lp_2.out.rd sm.out)).mono ?_
    rintro e u3 ⟨rfl, hb⟩
    have hb_3 := hid hb
    have Ka_3 := hid (Ka_2.out.step hb_3.out)
    have Lp_3 := hid (Lp_2.out.step hb_3.out)
    have B_3 := hid (B_2.out.trans (hb_3.out.mono (by omega)))
    have z_3 : u2.heap.size ≤ u3.heap.size := hb_3.out.size
    clear Ka_2 Lp_2 B_2
    clear hb_3
    clear hb
    clear Lp_3
    obtain ⟨qa0, qa1⟩ := Ka_3.out.c2
    go_wp2_with fail
    refine (toCredits_any _ (hx.out.below B_3.out) sm.out).mono ?_
    rintro e u4 ⟨Ax, cx, Bx, dx, vx, rfl, ox, hb⟩
    clear qa0 qa1
    have hb_4 := hid hb
    have Ka_4 := hid (Ka_3.out.step hb_4.out)
    have B_4 := hid (B_3.out.trans (hb_4.out.mono (by omega)))
    have z_4 : u3.heap.size ≤ u4.heap.size := hb_4.out.size
    clear Ka_3 B_3
    clear hb_4
    clear hb
    have Lx_4 := hid (Lc.of ox)
    clear ox
    go_upto_region 7 with (fail)
    obtain ⟨u5, hu⟩ : ∃ W, (u4.alloc (.cells #[.slice Ax cr.fr.length cx, .slice Bx cr.hs.length dx] 25)) = W := ⟨_, rfl⟩
    rw [hu]
    have hb : Below u4.heap.size u4 u5 := by rw [← hu]; exact below1 _ _
    have hcx : Cs u5 (u4.heap.size) 25 #[.slice Ax cr.fr.length cx, .slice Bx cr.hs.length dx] := by rw [← hu]; exact Cs.new _ _ _
    clear hu
    have hb_5 := hid hb
    have Ka_5 := hid (Ka_4.out.step hb_5.out)
    have Lx_5 := hid (Lx_4.out.step hb_5.out)
    have B_5 := hid (B_4.out.trans (hb_5.out.mono (by omega)))
    have z_5 : u4.heap.size ≤ u5.heap.size := hb_5.out.size
    clear Ka_4 Lx_4 B_4
    clear hb_5
    clear hb
    have Kx_5 := hid hcx
    have yx_5 : u4.heap.size < u5.heap.size := hcx.lt
    clear hcx
    obtain ⟨qx0, qx1⟩ := Kx_5.out.c2
    go_wp2_with fail
    refine (CreditsValid_ias hR.out _ (Lx_5.out.rd sm.out)).mono ?_
    rintro e u6 ⟨rfl, hb⟩
    clear qx0 qx1
    have hb_6 := hid hb
    have Ka_6 := hid (Ka_5.out.step hb_6.out)
    have Kx_6 := hid (Kx_5.out.step hb_6.out)
    have Lx_6 := hid (Lx_5.out.step hb_6.out)
    have B_6 := hid (B_5.out.trans (hb_6.out.mono (by omega)))
    have z_6 : u5.heap.size ≤ u6.heap.size := hb_6.out.size
    clear Ka_5 Kx_5 Lx_5 B_5
    clear hb_6
    clear hb
    have hbb : (R != R) = false := by cases R <;> rfl
    have hd := hid (Below.refl u6.heap.size u6).drew
    have Ka_d := hid (Ka_6.out.step hd.out)
    have Kx_d := hid (Kx_6.out.step hd.out)
    have Lx_d := hid (Lx_6.out.step hd.out)
    have B_d := hid (B_6.out.trans (hd.out.mono (by omega)))
    have z_d : u6.heap.size ≤ u6.drew.heap.size := hd.out.size
    have qe0 := And.intro Kx_d.out.c2 Ka_d.out.c2
    have qf0 := And.intro Kx_6.out.c2 Ka_6.out.c2
    go_wp2_with fail
    go_region_held3 (fun w' => (w'.cell? ⟨u4.heap.size, 0, none⟩ = some (.slice Ax cr.fr.length cx) ∧ w'.cell? ⟨u4.heap.size, 1, none⟩ = some (.slice Bx cr.hs.length dx)) ∧ w'.cell? ⟨w.heap.size, 0, none⟩ = some (.slice A n c) ∧ w'.cell? ⟨w.heap.size, 1, none⟩ = some (.slice B m d))
      (first | with_reducible exact qe0 | with_reducible exact qe1 | with_reducible exact qe2 | with_reducible exact qf0 | go_keep)
      (first | (go_at_call 19; (refine (toCredits_any _ (hx.out.below B_d.out) sm.out).mono ?_); rintro e ud ⟨Ad, cd, Bd, dd, vd, rfl, od, hb⟩; have Ka_e := hid (Ka_d.out.step hb); have Kx_e := hid (Kx_d.out.step hb); have Lx_e := hid (Lx_d.out.step hb); have B_e := hid (B_d.out.trans (hb.mono (by omega))); have z_e := hb.size; have Ld_e := hid (Lc.of od); have qe1 := And.intro Kx_e.out.c2 Ka_e.out.c2; clear hb od) | (go_at_call 12; (refine (eqCredits_same _ (Lx_e.out.rd sm.out) (Ld_e.out.rd sm.out)).mono ?_); rintro e u7 ⟨rfl, hb⟩; have Ka_7 := hid (Ka_e.out.step hb); have Kx_7 := hid (Kx_e.out.step hb); have Lx_7 := hid (Lx_e.out.step hb); have B_7 := hid (B_e.out.trans (hb.mono (by omega))); have z_7 : u6.heap.size ≤ u7.heap.size := Nat.le_trans z_d (Nat.le_trans z_e hb.size); have qe2 := And.intro Kx_7.out.c2 Ka_7.out.c2; clear hb))
    clear qe0 qf0 qe1 qe2 hd B_d B_e Ld_e z_d z_e
    clear Ka_d Kx_d Lx_d
    clear Ka_e Kx_e Lx_e
    clear Ka_6 Kx_6 Lx_6 B_6
    go_wp2
    go_ret
    exact ⟨rfl, B_7.out⟩

set_option maxRecDepth 100000 in
set_option maxHeartbeats 16000000 in
theorem exCreditsOrdered {n c m d : Nat} {A B : Option Addr} {cr : Cr} (w : World) (hx : RdCX w A n B m cr) (hn : n ≤ maxLen) (hm : m ≤ maxLen) (hs : ∀ y ∈ cr.hs, y.1.length ≤ maxLen) :
    Calls Try.prog 8 #[crV (.slice A n c) (.slice B m d)] w fun e w' => e = .returned (.bool true) ∧ Below w.heap.size w w' := by
  unfold maxLen at hn hm hs
  have hs' := hid (show ∀ y ∈ cr.hs, y.1.length ≤ 9223372036854775807 from fun y hy => by have := hs y hy; omega)
  replace hx := hid hx
  obtain ⟨u0, hu0⟩ : ∃ W, w.alloc (.cells #[.slice A n c, .slice B m d] 36) = W := ⟨_, rfl⟩
  have B_0 := hid (show Below w.heap.size w u0 by rw [← hu0]; exact below1 _ _)
  have Ka_0 := hid (show Cs u0 w.heap.size 36 #[.slice A n c, .slice B m d] by rw [← hu0]; exact Cs.new _ _ _)
  have ya_0 : w.heap.size < u0.heap.size := Ka_0.out.lt
  replace hu0 := hid hu0
  clear hs
  obtain ⟨R, hR⟩ : ∃ R, orB cr = R := ⟨_, rfl⟩
  replace hR := hid hR
  go_enter Try.func8, Try.ntmps8
  go_upto_region 2 with (fail)
  rw [hu0.out]
  obtain ⟨qa0, qa1⟩ := Ka_0.out.c2
  go_wp2_with fail
  refine (szCredits_any _ (hx.out.below B_0.out) (by omega) (by omega) hs'.out).mono ?_
  rintro e u1 ⟨⟨r, rfl, hr⟩, hb⟩
  clear qa0 qa1
  have hb_1 := hid hb
  have Ka_1 := hid (Ka_0.out.step hb_1.out)
  have B_1 := hid (B_0.out.trans (hb_1.out.mono (by omega)))
  have z_1 : u0.heap.size ≤ u1.heap.size := hb_1.out.size
  clear Ka_0 B_0
  clear hb_1
  clear hb
  rcases hr with rfl | ⟨r0, r1, hsm⟩
  · go_wp2
    go_ret
    exact ⟨rfl, B_1.out⟩
  · have sm := hid hsm
    have gz : ¬ (r < 0) := by omega
    clear hsm
    obtain ⟨qa0, qa1⟩ := Ka_1.out.c2
    go_wp2_with fail
    refine (toCredits_any _ (hx.out.below B_1.out) sm.out).mono ?_
    rintro e u2 ⟨Ap, cp, Bp, dp, vp, rfl, op, hb⟩
    clear qa0 qa1
    have hb_2 := hid hb
    have Ka_2 := hid (Ka_1.out.step hb_2.out)
    have B_2 := hid (B_1.out.trans (hb_2.out.mono (by omega)))
    have z_2 : u1.heap.size ≤ u2.heap.size := hb_2.out.size
    clear Ka_1 B_1
    clear hb_2
    clear hb
    have Lp_2 := hid (Lc.of op)
    clear op
    go_wp2_with fail
    refine (CreditsOrdered_as hR.out _ (Lp_2.out.rd sm.out)).mono ?_
    rintro e u3 ⟨rfl, hb⟩
    have hb_3 := hid hb
    have Ka_3 := hid (Ka_2.out.step hb_3.out)
    have Lp_3 := hid (Lp_2.out.step hb_3.out)
    have B_3 := hid (B_2.out.trans (hb_3.out.mono (by omega)))
    have z_3 : u2.heap.size ≤ u3.heap.size := hb_3.out.size
    clear Ka_2 Lp_2 B_2
    clear hb_3
    clear hb
    clear Lp_3
    obtain ⟨qa0, qa1⟩ := Ka_3.out.c2
    go_wp2_with fail
    refine (toCredits_any _ (hx.out.below B_3.out) sm.out).mono ?_
    rintro e u4 ⟨Ax, cx, Bx, dx, vx, rfl, ox, hb⟩
    clear qa0 qa1
    have hb_4 := hid hb
    have Ka_4 := hid (Ka_3.out.step hb_4.out)
    have B_4 := hid (B_3.out.trans (hb_4.out.mono (by omega)))
    have z_4 : u3.heap.size ≤ u4.heap.size := hb_4.out.size
    clear Ka_3 B_3
    clear hb_4
    clear hb
    have Lx_4 := hid (Lc.of ox)
    clear ox
    go_upto_region 7 with (fail)
    obtain ⟨u5, hu⟩ : ∃ W, (u4.alloc (.cells #[.slice Ax cr.fr.length cx, .slice Bx cr.hs.length dx] 25)) = W := ⟨_, rfl⟩
    rw [hu]
    have hb : Below u4.heap.size u4 u5 := by rw [← hu]; exact below1 _ _
    have hcx : Cs u5 (u4.heap.size) 25 #[.slice Ax cr.fr.length cx, .slice Bx cr.hs.length dx] := by rw [← hu]; exact Cs.new _ _ _
    clear hu
    have hb_5 := hid hb
    have Ka_5 := hid (Ka_4.out.step hb_5.out)
    have Lx_5 := hid (Lx_4.out.step hb_5.out)
    have B_5 := hid (B_4.out.trans (hb_5.out.mono (by omega)))
    have z_5 : u4.heap.size ≤ u5.heap.size := hb_5.out.size
    clear Ka_4 Lx_4 B_4
    clear hb_5
    clear hb
    have Kx_5 := hid hcx
    have yx_5 : u4.heap.size < u5.heap.size := hcx.lt
    clear hcx
    obtain ⟨qx0, qx1⟩ := Kx_5.out.c2
    go_wp2_with fail
    refine (CreditsOrdered_ias hR.out _ (Lx_5.out.rd sm.out)).mono ?_
    rintro e u6 ⟨rfl, hb⟩
    clear qx0 qx1
    have hb_6 := hid hb
    have Ka_6 := hid (Ka_5.out.step hb_6.out)
    have Kx_6 := hid (Kx_5.out.step hb_6.out)
    have Lx_6 := hid (Lx_5.out.step hb_6.out)
    have B_6 := hid (B_5.out.trans (hb_6.out.mono (by omega)))
    have z_6 : u5.heap.size ≤ u6.heap.size := hb_6.out.size
    clear Ka_5 Kx_5 Lx_5 B_5
    clear hb_6
    clear hb
    have hbb : (R != R) = false := by cases R <;> rfl
    have hd := hid (Below.refl u6.heap.size u6).drew
    have Ka_d := hid (Ka_6.out.step hd.out)
    have Kx_d := hid (Kx_6.out.step hd.out)
    have Lx_d := hid (Lx_6.out.step hd.out)
    have B_d := hid (B_6.out.trans (hd.out.mono (by omega)))
    have z_d : u6.heap.size ≤ u6.drew.heap.size := hd.out.size
    have qe0 := And.intro Kx_d.out.c2 Ka_d.out.c2
    have qf0 := And.intro Kx_6.out.c2 Ka_6.out.c2
    go_wp2_with fail
    go_region_held3 (fun w' => (w'.cell? ⟨u4.heap.size, 0, none⟩ = some (.slice Ax cr.fr.length cx) ∧ w'.cell? ⟨u4.heap.size, 1, none⟩ = some (.slice Bx cr.hs.length dx)) ∧ w'.cell? ⟨w.heap.size, 0, none⟩ = some (.slice A n c) ∧ w'.cell? ⟨w.heap.size, 1, none⟩ = some (.slice B m d))
      (first | with_reducible exact qe0 | with_reducible exact qe1 | with_reducible exact qe2 | with_reducible exact qf0 | go_keep)
      (first | (go_at_call 19; (refine (toCredits_any _ (hx.out.below B_d.out) sm.out).mono ?_); rintro e ud ⟨Ad, cd, Bd, dd, vd, rfl, od, hb⟩; have Ka_e := hid (Ka_d.out.step hb); have Kx_e := hid (Kx_d.out.step hb); have Lx_e := hid (Lx_d.out.step hb); have B_e := hid (B_d.out.trans (hb.mono (by omega))); have z_e := hb.size; have Ld_e := hid (Lc.of od); have qe1 := And.intro Kx_e.out.c2 Ka_e.out.c2; clear hb od) | (go_at_call 12; (refine (eqCredits_same _ (Lx_e.out.rd sm.out) (Ld_e.out.rd sm.out)).mono ?_); rintro e u7 ⟨rfl, hb⟩; have Ka_7 := hid (Ka_e.out.step hb); have Kx_7 := hid (Kx_e.out.step hb); have Lx_7 := hid (Lx_e.out.step hb); have B_7 := hid (B_e.out.trans (hb.mono (by omega))); have z_7 : u6.heap.size ≤ u7.heap.size := Nat.le_trans z_d (Nat.le_trans z_e hb.size); have qe2 := And.intro Kx_7.out.c2 Ka_7.out.c2; clear hb))
    clear qe0 qf0 qe1 qe2 hd B_d B_e Ld_e z_d z_e
    clear Ka_d Kx_d Lx_d
    clear Ka_e Kx_e Lx_e
    clear Ka_6 Kx_6 Lx_6 B_6
    go_wp2
    go_ret
    exact ⟨rfl, B_7.out⟩

end Go.Proofs.Ytgeihcbiahnnaaa
