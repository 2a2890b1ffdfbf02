/-
  The walks of the exact laws of ViewValid: the law returns true and writes nothing that was there. No condition.
-/
import Derived.Test.YtohbbpmjoaklhaaVvA
import Derived.Deep.CutBlock
import Derived.Deep.RegionLaw
import Derived.Deep.RegionHeld3
import Derived.Deep.DeepCutAuto
namespace Go.Proofs.Ytohbbpmjoaklhaa
open Go.RowKit
set_option linter.unusedVariables false
set_option linter.unusedSimpArgs false

set_option maxRecDepth 100000 in
set_option maxHeartbeats 16000000 in
theorem exViewValid {l c : Nat} {A : Option Addr} {zs : List Int} (n : Int) (w : World) (hr : RdI w w.heap.size A l zs) (hn : l ≤ maxLen) :
    Calls Try.prog 3 #[vwV n (.slice A l c)] w fun e w' => e = .returned (.bool true) ∧ Below w.heap.size w w' := by
  unfold maxLen at hn
  obtain rfl := hr.len
  have hx := hid hr
  clear hr
  obtain ⟨u0, hu0⟩ : ∃ W, w.alloc (.cells #[.int .i64 n, .slice A zs.length c] 24) = W := ⟨_, rfl⟩
  have B_0 := hid (show Below w.heap.size w u0 by rw [← hu0]; exact below1 _ _)
  have Ka_0 := hid (show Cs u0 w.heap.size 24 #[.int .i64 n, .slice A zs.length c] by rw [← hu0]; exact Cs.new _ _ _)
  have ya_0 : w.heap.size < u0.heap.size := Ka_0.out.lt
  replace hu0 := hid hu0
  by_cases hbig : (zs.length : Int) ≤ 1048576
  · have gz : ¬ (1048576 - (zs.length : Int) < 0) := by omega
    have hl20 : zs.length ≤ 1048576 := by omega
    obtain ⟨R, hR⟩ : ∃ R, vwB n zs = R := ⟨_, rfl⟩
    replace hR := hid hR
    go_enter Try.func3, Try.ntmps3
    go_upto_region 2 with (fail)
    rw [hu0.out]
    obtain ⟨qa0, qa1, -, -⟩ := Ka_0.out.two
    go_wp2_with fail
    refine (szView_y n _ hbig (by omega) (by omega)).mono ?_
    rintro e u1 ⟨rfl, hb⟩
    clear qa0 qa1
    have hb_1 := hid hb
    have Ka_1 := hid (Ka_0.out.step hb_1.out)
    have B_1 := hid (B_0.out.trans (hb_1.out.mono (by omega)))
    have z_1 : u0.heap.size ≤ u1.heap.size := hb_1.out.size
    clear Ka_0 B_0
    clear hb_1
    clear hb
    obtain ⟨qa0, qa1, -, -⟩ := Ka_1.out.two
    go_wp2_with fail
    refine (toView_any n _ ((Reads.below hx.out B_1.out).more B_1.out.size) (by omega)).mono ?_
    rintro e u2 ⟨Ap, cp, rfl, op, hb⟩
    clear qa0 qa1
    have hb_2 := hid hb
    have Ka_2 := hid (Ka_1.out.step hb_2.out)
    have B_2 := hid (B_1.out.trans (hb_2.out.mono (by omega)))
    have z_2 : u1.heap.size ≤ u2.heap.size := hb_2.out.size
    clear Ka_1 B_1
    clear hb_2
    clear hb
    have Np_2 := hid (Lv.ofI op)
    clear op
    go_wp2_with fail
    refine (ViewValid_spec n _ Np_2.out.at_ (by omega) hR.out).mono ?_
    rintro e u3 ⟨rfl, hb⟩
    have hb_3 := hid hb
    have Ka_3 := hid (Ka_2.out.step hb_3.out)
    have Np_3 := hid (Np_2.out.step hb_3.out)
    have B_3 := hid (B_2.out.trans (hb_3.out.mono (by omega)))
    have z_3 : u2.heap.size ≤ u3.heap.size := hb_3.out.size
    clear Ka_2 Np_2 B_2
    clear hb_3
    clear hb
    clear Np_3
    obtain ⟨qa0, qa1, -, -⟩ := Ka_3.out.two
    go_wp2_with fail
    refine (toView_any n _ ((Reads.below hx.out B_3.out).more B_3.out.size) (by omega)).mono ?_
    rintro e u4 ⟨Ax, cx, rfl, ox, hb⟩
    clear qa0 qa1
    have hb_4 := hid hb
    have Ka_4 := hid (Ka_3.out.step hb_4.out)
    have B_4 := hid (B_3.out.trans (hb_4.out.mono (by omega)))
    have z_4 : u3.heap.size ≤ u4.heap.size := hb_4.out.size
    clear Ka_3 B_3
    clear hb_4
    clear hb
    have Nx_4 := hid (Lv.ofI ox)
    clear ox
    go_upto_region 7 with (fail)
    obtain ⟨u5, hu⟩ : ∃ W, (u4.alloc (.cells #[.int .i64 n, .slice Ax zs.length cx] 27)) = W := ⟨_, rfl⟩
    rw [hu]
    have hb : Below u4.heap.size u4 u5 := by rw [← hu]; exact below1 _ _
    have hcx : Cs u5 (u4.heap.size) 27 #[.int .i64 n, .slice Ax zs.length cx] := by rw [← hu]; exact Cs.new _ _ _
    clear hu
    have hb_5 := hid hb
    have Ka_5 := hid (Ka_4.out.step hb_5.out)
    have Nx_5 := hid (Nx_4.out.step hb_5.out)
    have B_5 := hid (B_4.out.trans (hb_5.out.mono (by omega)))
    have z_5 : u4.heap.size ≤ u5.heap.size := hb_5.out.size
    clear Ka_4 Nx_4 B_4
    clear hb_5
    clear hb
    have Kx_5 := hid hcx
    have yx_5 : u4.heap.size < u5.heap.size := hcx.lt
    clear hcx
    obtain ⟨qx0, qx1, -, -⟩ := Kx_5.out.two
    go_wp2_with fail
    refine (ViewValid_impl n _ Nx_5.out.at_ (by omega) hR.out).mono ?_
    rintro e u6 ⟨rfl, hb⟩
    clear qx0 qx1
    have hb_6 := hid hb
    have Ka_6 := hid (Ka_5.out.step hb_6.out)
    have Kx_6 := hid (Kx_5.out.step hb_6.out)
    have Nx_6 := hid (Nx_5.out.step hb_6.out)
    have B_6 := hid (B_5.out.trans (hb_6.out.mono (by omega)))
    have z_6 : u5.heap.size ≤ u6.heap.size := hb_6.out.size
    clear Ka_5 Kx_5 Nx_5 B_5
    clear hb_6
    clear hb
    have hbb : (R != R) = false := by cases R <;> rfl
    have hd := hid (Below.refl u6.heap.size u6).drew
    have Ka_d := hid (Ka_6.out.step hd.out)
    have Kx_d := hid (Kx_6.out.step hd.out)
    have Nx_d := hid (Nx_6.out.step hd.out)
    have B_d := hid (B_6.out.trans (hd.out.mono (by omega)))
    have z_d : u6.heap.size ≤ u6.drew.heap.size := hd.out.size
    have qe0 := And.intro (And.intro Kx_d.out.two.1 Kx_d.out.two.2.1) (And.intro Ka_d.out.two.1 Ka_d.out.two.2.1)
    have qf0 := And.intro (And.intro Kx_6.out.two.1 Kx_6.out.two.2.1) (And.intro Ka_6.out.two.1 Ka_6.out.two.2.1)
    go_wp2_with fail
    go_region_held3 (fun w' => (w'.cell? ⟨u4.heap.size, 0, none⟩ = some (.int .i64 n) ∧ w'.cell? ⟨u4.heap.size, 1, none⟩ = some (.slice Ax zs.length cx)) ∧ w'.cell? ⟨w.heap.size, 0, none⟩ = some (.int .i64 n) ∧ w'.cell? ⟨w.heap.size, 1, none⟩ = some (.slice A zs.length c))
      (first | with_reducible exact qe0 | with_reducible exact qe1 | with_reducible exact qe2 | with_reducible exact qf0 | go_keep)
      (first | (go_at_call 6; (refine (toView_any n _ ((Reads.below hx.out B_d.out).more B_d.out.size) (by omega)).mono ?_); rintro e ud ⟨Ad, cd, rfl, od, hb⟩; have Ka_e := hid (Ka_d.out.step hb); have Kx_e := hid (Kx_d.out.step hb); have Nx_e := hid (Nx_d.out.step hb); have B_e := hid (B_d.out.trans (hb.mono (by omega))); have z_e := hb.size; have Nd_e := hid (Lv.ofI od); have qe1 := And.intro (And.intro Kx_e.out.two.1 Kx_e.out.two.2.1) (And.intro Ka_e.out.two.1 Ka_e.out.two.2.1); clear hb od) | (go_at_call 8; (refine (eqView_same n _ Nx_e.out.at_ Nd_e.out.at_ (by omega)).mono ?_); rintro e u7 ⟨rfl, hb⟩; have Ka_7 := hid (Ka_e.out.step hb); have Kx_7 := hid (Kx_e.out.step hb); have Nx_7 := hid (Nx_e.out.step hb); have B_7 := hid (B_e.out.trans (hb.mono (by omega))); have z_7 : u6.heap.size ≤ u7.heap.size := Nat.le_trans z_d (Nat.le_trans z_e hb.size); have qe2 := And.intro (And.intro Kx_7.out.two.1 Kx_7.out.two.2.1) (And.intro Ka_7.out.two.1 Ka_7.out.two.2.1); clear hb))
    clear qe0 qf0 qe1 qe2 hd B_d B_e Nd_e z_d z_e
    clear Ka_d Kx_d Nx_d
    clear Ka_e Kx_e Nx_e
    clear Ka_6 Kx_6 Nx_6 B_6
    go_wp2
    go_ret
    exact ⟨rfl, B_7.out⟩
  · obtain ⟨qa0, qa1, -, -⟩ := Ka_0.out.two
    go_enter Try.func3, Try.ntmps3
    go_upto_region 2 with (fail)
    rw [hu0.out]
    go_wp2_with fail
    refine (szView_n n _ (by omega) (by omega) (by omega) (by omega)).mono ?_
    rintro e w1 ⟨rfl, hb⟩
    have hB := hid (B_0.out.trans (hb.mono (by omega)))
    clear hb
    go_wp2
    go_ret
    exact ⟨rfl, hB.out⟩

end Go.Proofs.Ytohbbpmjoaklhaa
