/-
  The walks of the exact laws of ViewSplit: the law returns true and writes nothing that was there. No condition.
-/
import Derived.Test.YtohbbpmjoaklhaaDoorVxA
import Derived.Test.YtohbbpmjoaklhaaDoorVwL
import Derived.Deep.CutBlock
import Derived.Deep.RegionLaw
import Derived.Deep.RegionHeld3
import Derived.Deep.DeepCutAuto
namespace Go.Proofs.YtohbbpmjoaklhaaDoor
open Go.RowKit
set_option linter.unusedVariables false
set_option linter.unusedSimpArgs false

theorem Lv.capS {w : World} {lo hi n c : Nat} {A : Option Addr} {zs : List Int} (h : Lv w lo hi (.slice A n c) zs) : n ≤ c ∧ c ≤ 9223372036854775807 := (OwI.capV h.1.1).2
/-- what a call that splits a view hands back, laid open -/
def SXm (on : Int) (oz : List Int) (pn : Int) (pz : List Int) (ok : Bool) (w : World) (e : Ending) (w' : World) : Prop :=
  ∃ A c A2 c2 mid, e = .returned (.tuple #[vwV on (.slice A oz.length c), vwV pn (.slice A2 pz.length c2), .bool ok]) ∧ Ow w' w.heap.size mid (.slice A oz.length c) oz ∧ OwI w' mid (.slice A2 pz.length c2) pz ∧ w.heap.size ≤ mid ∧ mid ≤ w'.heap.size ∧ Below w.heap.size w w'

theorem SPost.xm {r : (Int × List Int) × (Int × List Int) × Bool} {on : Int} {oz : List Int} {pn : Int} {pz : List Int} {ok : Bool} (hr : r = ((on, oz), (pn, pz), ok)) {w : World} {e : Ending} {w' : World} (h : SPost r w e w') : SXm on oz pn pz ok w e w' := by
  subst hr; exact h

theorem splitR_lenX {n x on pn : Int} {zs oz pz : List Int} {ok : Bool} (h : splitR n zs x = ((on, oz), (pn, pz), ok)) : oz.length ≤ 8 ∧ pz.length ≤ 8 := by
  unfold splitR at h
  split at h
  · rename_i hv
    unfold splB at hv
    rw [Bool.and_eq_true, Bool.and_eq_true] at hv
    injection h with h1 h2
    injection h2 with h2 h3
    injection h1 with h4 h5
    injection h2 with h6 h7
    rw [← h5, ← h7]
    exact ⟨(vwB_true.1 hv.1.2).2.2.len, (vwB_true.1 hv.2).2.2.len⟩
  · injection h with h1 h2
    injection h2 with h2 h3
    injection h1 with h4 h5
    injection h2 with h6 h7
    subst h5
    subst h7
    simp

set_option maxRecDepth 100000 in
set_option maxHeartbeats 16000000 in
theorem exViewSplit {l c : Nat} {A : Option Addr} {zs : List Int} {a1 : Addr} (n x : Int) (w : World) (hr : RdI w w.heap.size A l zs) (hn : l ≤ maxLen) (sB : Sn w 1 a1) :
    Calls Tryd.prog 5 #[vwV n (.slice A l c), .int .i64 x] w fun e w' => e = .returned (.bool true) ∧ Below w.heap.size w w' := by
  unfold maxLen at hn
  obtain rfl := hr.len
  have hx := hid hr
  have sB := hid sB
  clear hr
  obtain ⟨u0, hu0⟩ : ∃ W, w.alloc (.cells #[.int .i64 n, .slice A zs.length c] 24) = W := ⟨_, rfl⟩
  have B_0 := hid (show Below w.heap.size w u0 by rw [← hu0]; exact below1 _ _)
  have Ka_0 := hid (show Cs u0 w.heap.size 24 #[.int .i64 n, .slice A zs.length c] by rw [← hu0]; exact Cs.new _ _ _)
  have ya_0 : w.heap.size < u0.heap.size := Ka_0.out.lt
  replace hu0 := hid hu0
  by_cases hbig : (zs.length : Int) ≤ 1048576
  · have gz : ¬ (1048576 - (zs.length : Int) < 0) := by omega
    have hl20 : zs.length ≤ 1048576 := by omega
    obtain ⟨on, oz, pn, pz, ok, hR⟩ : ∃ on oz pn pz ok, splitR n zs x = ((on, oz), (pn, pz), ok) := ⟨_, _, _, _, _, rfl⟩
    obtain ⟨hol, hpl⟩ := splitR_lenX hR
    replace hR := hid hR
    go_enter Tryd.func5, Tryd.ntmps5
    go_upto_region 2 with (fail)
    rw [hu0.out]
    obtain ⟨qa0, qa1, -, -⟩ := Ka_0.out.two
    go_wp2_with fail
    refine (szView_y n _ hbig (by omega) (by omega)).mono ?_
    rintro e u1 ⟨rfl, hb⟩
    clear qa0 qa1
    have hb_1 := hid hb
    have Ka_1 := hid (Ka_0.out.step hb_1.out)
    have B_1 := hid (B_0.out.trans (hb_1.out.mono (by omega)))
    have z_1 : u0.heap.size ≤ u1.heap.size := hb_1.out.size
    clear Ka_0 B_0
    clear hb_1
    clear hb
    have hbb : (ok != ok) = false := by cases ok <;> rfl
    obtain ⟨qa0, qa1, -, -⟩ := Ka_1.out.two
    go_wp2_with fail
    refine (toView_any n _ ((Reads.below hx.out B_1.out).more B_1.out.size) (by omega)).mono ?_
    rintro e u2 ⟨Ac, cc, rfl, oc, hb⟩
    clear qa0 qa1
    have hb_2 := hid hb
    have Ka_2 := hid (Ka_1.out.step hb_2.out)
    have B_2 := hid (B_1.out.trans (hb_2.out.mono (by omega)))
    have z_2 : u1.heap.size ≤ u2.heap.size := hb_2.out.size
    clear Ka_1 B_1
    clear hb_2
    clear hb
    have Nc_2 := hid (Lv.ofI oc)
    clear oc
    go_wp2_with fail
    refine ((ViewSplit_spec n x _ Nc_2.out.at_ (by omega)).mono fun _ _ h => SPost.xm hR.out h).mono ?_
    rintro e u3 ⟨Ar, cr, At, ct, m1, rfl, or, ot, m1a, m1b, hb⟩
    have hb_3 := hid hb
    have Ka_3 := hid (Ka_2.out.step hb_3.out)
    have Nc_3 := hid (Nc_2.out.step hb_3.out)
    have B_3 := hid (B_2.out.trans (hb_3.out.mono (by omega)))
    have z_3 : u2.heap.size ≤ u3.heap.size := hb_3.out.size
    clear Ka_2 Nc_2 B_2
    clear hb_3
    clear hb
    have Nr_3 := hid (show Lv u3 u2.heap.size m1 (.slice Ar oz.length cr) oz from ⟨or, m1b⟩)
    clear or
    have Nt_3 := hid (Lv.ofI ot)
    clear ot
    go_upto_region 6 with (fail)
    obtain ⟨u4, hu⟩ : ∃ W, ((u3.alloc (.cells #[.int .i64 on, .slice Ar oz.length cr] 26)).alloc (.cells #[.int .i64 pn, .slice At pz.length ct] 26)) = W := ⟨_, rfl⟩
    rw [hu]
    have hb : Below u3.heap.size u3 u4 := by rw [← hu]; exact below2 _ _ _
    have hcr : Cs u4 (u3.heap.size) 26 #[.int .i64 on, .slice Ar oz.length cr] := by rw [← hu]; exact (Cs.new _ _ _).alloc _
    have hct : Cs u4 (u3.heap.size + 1) 26 #[.int .i64 pn, .slice At pz.length ct] := by rw [← hu]; exact Cs.new' _ _ _ (by simp)
    clear hu
    have hb_4 := hid hb
    have Ka_4 := hid (Ka_3.out.step hb_4.out)
    have Nc_4 := hid (Nc_3.out.step hb_4.out)
    have Nr_4 := hid (Nr_3.out.step hb_4.out)
    have Nt_4 := hid (Nt_3.out.step hb_4.out)
    have B_4 := hid (B_3.out.trans (hb_4.out.mono (by omega)))
    have z_4 : u3.heap.size ≤ u4.heap.size := hb_4.out.size
    clear Ka_3 Nc_3 Nr_3 Nt_3 B_3
    clear hb_4
    clear hb
    have Kr_4 := hid hcr
    have yr_4 : u3.heap.size < u4.heap.size := hcr.lt
    clear hcr
    have Kt_4 := hid hct
    have yt_4 : u3.heap.size + 1 < u4.heap.size := hct.lt
    clear hct
    clear Nc_4
    obtain ⟨qa0, qa1, -, -⟩ := Ka_4.out.two
    go_wp2_with fail
    refine (toView_any n _ ((Reads.below hx.out B_4.out).more B_4.out.size) (by omega)).mono ?_
    rintro e u5 ⟨Ax, cx, rfl, ox, hb⟩
    clear qa0 qa1
    have hb_5 := hid hb
    have Ka_5 := hid (Ka_4.out.step hb_5.out)
    have Kr_5 := hid (Kr_4.out.step hb_5.out)
    have Kt_5 := hid (Kt_4.out.step hb_5.out)
    have Nr_5 := hid (Nr_4.out.step hb_5.out)
    have Nt_5 := hid (Nt_4.out.step hb_5.out)
    have B_5 := hid (B_4.out.trans (hb_5.out.mono (by omega)))
    have z_5 : u4.heap.size ≤ u5.heap.size := hb_5.out.size
    clear Ka_4 Kr_4 Kt_4 Nr_4 Nt_4 B_4
    clear hb_5
    clear hb
    have Nx_5 := hid (Lv.ofI ox)
    clear ox
    go_upto_region 7 with (fail)
    obtain ⟨u6, hu⟩ : ∃ W, (u5.alloc (.cells #[.int .i64 n, .slice Ax zs.length cx] 26)) = W := ⟨_, rfl⟩
    rw [hu]
    have hb : Below u5.heap.size u5 u6 := by rw [← hu]; exact below1 _ _
    have hcx : Cs u6 (u5.heap.size) 26 #[.int .i64 n, .slice Ax zs.length cx] := by rw [← hu]; exact Cs.new _ _ _
    clear hu
    have hb_6 := hid hb
    have Ka_6 := hid (Ka_5.out.step hb_6.out)
    have Kr_6 := hid (Kr_5.out.step hb_6.out)
    have Kt_6 := hid (Kt_5.out.step hb_6.out)
    have Nr_6 := hid (Nr_5.out.step hb_6.out)
    have Nt_6 := hid (Nt_5.out.step hb_6.out)
    have Nx_6 := hid (Nx_5.out.step hb_6.out)
    have B_6 := hid (B_5.out.trans (hb_6.out.mono (by omega)))
    have z_6 : u5.heap.size ≤ u6.heap.size := hb_6.out.size
    clear Ka_5 Kr_5 Kt_5 Nr_5 Nt_5 Nx_5 B_5
    clear hb_6
    clear hb
    have Kx_6 := hid hcx
    have yx_6 : u5.heap.size < u6.heap.size := hcx.lt
    clear hcx
    obtain ⟨qx0, qx1, -, -⟩ := Kx_6.out.two
    go_wp2_with fail
    refine ((ViewSplit_impl n x _ Nx_6.out.at_ Nx_6.out.capS (by omega) (Sn.below sB.out B_6.out)).mono fun _ _ h => SPost.xm hR.out h).mono ?_
    rintro e u7 ⟨Ap, cp, Aq, cq, m2, rfl, op, oq, m2a, m2b, hb⟩
    clear qx0 qx1
    have hb_7 := hid hb
    have Ka_7 := hid (Ka_6.out.step hb_7.out)
    have Kr_7 := hid (Kr_6.out.step hb_7.out)
    have Kt_7 := hid (Kt_6.out.step hb_7.out)
    have Kx_7 := hid (Kx_6.out.step hb_7.out)
    have Nr_7 := hid (Nr_6.out.step hb_7.out)
    have Nt_7 := hid (Nt_6.out.step hb_7.out)
    have Nx_7 := hid (Nx_6.out.step hb_7.out)
    have B_7 := hid (B_6.out.trans (hb_7.out.mono (by omega)))
    have z_7 : u6.heap.size ≤ u7.heap.size := hb_7.out.size
    clear Ka_6 Kr_6 Kt_6 Kx_6 Nr_6 Nt_6 Nx_6 B_6
    clear hb_7
    clear hb
    have Np_7 := hid (show Lv u7 u6.heap.size m2 (.slice Ap oz.length cp) oz from ⟨op, m2b⟩)
    clear op
    have Nq_7 := hid (Lv.ofI oq)
    clear oq
    go_upto_region 8 with (fail)
    obtain ⟨u8, hu⟩ : ∃ W, ((u7.alloc (.cells #[.int .i64 on, .slice Ap oz.length cp] 26)).alloc (.cells #[.int .i64 pn, .slice Aq pz.length cq] 26)) = W := ⟨_, rfl⟩
    rw [hu]
    have hb : Below u7.heap.size u7 u8 := by rw [← hu]; exact below2 _ _ _
    have hcp : Cs u8 (u7.heap.size) 26 #[.int .i64 on, .slice Ap oz.length cp] := by rw [← hu]; exact (Cs.new _ _ _).alloc _
    have hcq : Cs u8 (u7.heap.size + 1) 26 #[.int .i64 pn, .slice Aq pz.length cq] := by rw [← hu]; exact Cs.new' _ _ _ (by simp)
    clear hu
    have hb_8 := hid hb
    have Ka_8 := hid (Ka_7.out.step hb_8.out)
    have Kr_8 := hid (Kr_7.out.step hb_8.out)
    have Kt_8 := hid (Kt_7.out.step hb_8.out)
    have Kx_8 := hid (Kx_7.out.step hb_8.out)
    have Nr_8 := hid (Nr_7.out.step hb_8.out)
    have Nt_8 := hid (Nt_7.out.step hb_8.out)
    have Nx_8 := hid (Nx_7.out.step hb_8.out)
    have Np_8 := hid (Np_7.out.step hb_8.out)
    have Nq_8 := hid (Nq_7.out.step hb_8.out)
    have B_8 := hid (B_7.out.trans (hb_8.out.mono (by omega)))
    have z_8 : u7.heap.size ≤ u8.heap.size := hb_8.out.size
    clear Ka_7 Kr_7 Kt_7 Kx_7 Nr_7 Nt_7 Nx_7 Np_7 Nq_7 B_7
    clear hb_8
    clear hb
    have Kp_8 := hid hcp
    have yp_8 : u7.heap.size < u8.heap.size := hcp.lt
    clear hcp
    have Kq_8 := hid hcq
    have yq_8 : u7.heap.size + 1 < u8.heap.size := hcq.lt
    clear hcq
    obtain ⟨qp0, qp1, -, -⟩ := Kp_8.out.two
    obtain ⟨qr0, qr1, -, -⟩ := Kr_8.out.two
    go_wp2_with fail
    refine (eqView_same on _ Np_8.out.at_ Nr_8.out.at_ (by omega)).mono ?_
    rintro e u9 ⟨rfl, hb⟩
    clear qp0 qp1 qr0 qr1
    have hb_9 := hid hb
    have Ka_9 := hid (Ka_8.out.step hb_9.out)
    have Kr_9 := hid (Kr_8.out.step hb_9.out)
    have Kt_9 := hid (Kt_8.out.step hb_9.out)
    have Kx_9 := hid (Kx_8.out.step hb_9.out)
    have Kp_9 := hid (Kp_8.out.step hb_9.out)
    have Kq_9 := hid (Kq_8.out.step hb_9.out)
    have Nr_9 := hid (Nr_8.out.step hb_9.out)
    have Nt_9 := hid (Nt_8.out.step hb_9.out)
    have Nx_9 := hid (Nx_8.out.step hb_9.out)
    have Np_9 := hid (Np_8.out.step hb_9.out)
    have Nq_9 := hid (Nq_8.out.step hb_9.out)
    have B_9 := hid (B_8.out.trans (hb_9.out.mono (by omega)))
    have z_9 : u8.heap.size ≤ u9.heap.size := hb_9.out.size
    clear Ka_8 Kr_8 Kt_8 Kx_8 Kp_8 Kq_8 Nr_8 Nt_8 Nx_8 Np_8 Nq_8 B_8
    clear hb_9
    clear hb
    obtain ⟨qq0, qq1, -, -⟩ := Kq_9.out.two
    obtain ⟨qt0, qt1, -, -⟩ := Kt_9.out.two
    go_wp2_with fail
    refine (eqView_same pn _ Nq_9.out.at_ Nt_9.out.at_ (by omega)).mono ?_
    rintro e u10 ⟨rfl, hb⟩
    clear qq0 qq1 qt0 qt1
    have hb_10 := hid hb
    have Ka_10 := hid (Ka_9.out.step hb_10.out)
    have Kr_10 := hid (Kr_9.out.step hb_10.out)
    have Kt_10 := hid (Kt_9.out.step hb_10.out)
    have Kx_10 := hid (Kx_9.out.step hb_10.out)
    have Kp_10 := hid (Kp_9.out.step hb_10.out)
    have Kq_10 := hid (Kq_9.out.step hb_10.out)
    have Nr_10 := hid (Nr_9.out.step hb_10.out)
    have Nt_10 := hid (Nt_9.out.step hb_10.out)
    have Nx_10 := hid (Nx_9.out.step hb_10.out)
    have Np_10 := hid (Np_9.out.step hb_10.out)
    have Nq_10 := hid (Nq_9.out.step hb_10.out)
    have B_10 := hid (B_9.out.trans (hb_10.out.mono (by omega)))
    have z_10 : u9.heap.size ≤ u10.heap.size := hb_10.out.size
    clear Ka_9 Kr_9 Kt_9 Kx_9 Kp_9 Kq_9 Nr_9 Nt_9 Nx_9 Np_9 Nq_9 B_9
    clear hb_10
    clear hb
    have hd := hid (Below.refl u10.heap.size u10).drew
    have Ka_d := hid (Ka_10.out.step hd.out)
    have Kr_d := hid (Kr_10.out.step hd.out)
    have Kt_d := hid (Kt_10.out.step hd.out)
    have Kx_d := hid (Kx_10.out.step hd.out)
    have Kp_d := hid (Kp_10.out.step hd.out)
    have Kq_d := hid (Kq_10.out.step hd.out)
    have Nr_d := hid (Nr_10.out.step hd.out)
    have Nt_d := hid (Nt_10.out.step hd.out)
    have Nx_d := hid (Nx_10.out.step hd.out)
    have Np_d := hid (Np_10.out.step hd.out)
    have Nq_d := hid (Nq_10.out.step hd.out)
    have B_d := hid (B_10.out.trans (hd.out.mono (by omega)))
    have z_d : u10.heap.size ≤ u10.drew.heap.size := hd.out.size
    have qe0 := And.intro (And.intro Kx_d.out.two.1 Kx_d.out.two.2.1) (And.intro Ka_d.out.two.1 Ka_d.out.two.2.1)
    have qf0 := And.intro (And.intro Kx_10.out.two.1 Kx_10.out.two.2.1) (And.intro Ka_10.out.two.1 Ka_10.out.two.2.1)
    go_wp2_with fail
    go_region_held3 (fun w' => (w'.cell? ⟨u5.heap.size, 0, none⟩ = some (.int .i64 n) ∧ w'.cell? ⟨u5.heap.size, 1, none⟩ = some (.slice Ax zs.length cx)) ∧ w'.cell? ⟨w.heap.size, 0, none⟩ = some (.int .i64 n) ∧ w'.cell? ⟨w.heap.size, 1, none⟩ = some (.slice A zs.length c))
      (first | with_reducible exact qe0 | with_reducible exact qe1 | with_reducible exact qe2 | with_reducible exact qf0 | go_keep)
      (first | (go_at_call 10; (refine (toView_any n _ ((Reads.below hx.out B_d.out).more B_d.out.size) (by omega)).mono ?_); rintro e ud ⟨Ad, cd, rfl, od, hb⟩; have Ka_e := hid (Ka_d.out.step hb); have Kr_e := hid (Kr_d.out.step hb); have Kt_e := hid (Kt_d.out.step hb); have Kx_e := hid (Kx_d.out.step hb); have Kp_e := hid (Kp_d.out.step hb); have Kq_e := hid (Kq_d.out.step hb); have Nr_e := hid (Nr_d.out.step hb); have Nt_e := hid (Nt_d.out.step hb); have Nx_e := hid (Nx_d.out.step hb); have Np_e := hid (Np_d.out.step hb); have Nq_e := hid (Nq_d.out.step hb); have B_e := hid (B_d.out.trans (hb.mono (by omega))); have z_e := hb.size; have Nd_e := hid (Lv.ofI od); have qe1 := And.intro (And.intro Kx_e.out.two.1 Kx_e.out.two.2.1) (And.intro Ka_e.out.two.1 Ka_e.out.two.2.1); clear hb od) | (go_at_call 12; (refine (eqView_same n _ Nx_e.out.at_ Nd_e.out.at_ (by omega)).mono ?_); rintro e u11 ⟨rfl, hb⟩; have Ka_11 := hid (Ka_e.out.step hb); have Kr_11 := hid (Kr_e.out.step hb); have Kt_11 := hid (Kt_e.out.step hb); have Kx_11 := hid (Kx_e.out.step hb); have Kp_11 := hid (Kp_e.out.step hb); have Kq_11 := hid (Kq_e.out.step hb); have Nr_11 := hid (Nr_e.out.step hb); have Nt_11 := hid (Nt_e.out.step hb); have Nx_11 := hid (Nx_e.out.step hb); have Np_11 := hid (Np_e.out.step hb); have Nq_11 := hid (Nq_e.out.step hb); have B_11 := hid (B_e.out.trans (hb.mono (by omega))); have z_11 : u10.heap.size ≤ u11.heap.size := Nat.le_trans z_d (Nat.le_trans z_e hb.size); have qe2 := And.intro (And.intro Kx_11.out.two.1 Kx_11.out.two.2.1) (And.intro Ka_11.out.two.1 Ka_11.out.two.2.1); clear hb))
    clear qe0 qf0 qe1 qe2 hd B_d B_e Nd_e z_d z_e
    clear Ka_d Kr_d Kt_d Kx_d Kp_d Kq_d Nr_d Nt_d Nx_d Np_d Nq_d
    clear Ka_e Kr_e Kt_e Kx_e Kp_e Kq_e Nr_e Nt_e Nx_e Np_e Nq_e
    clear Ka_10 Kr_10 Kt_10 Kx_10 Kp_10 Kq_10 Nr_10 Nt_10 Nx_10 Np_10 Nq_10 B_10
    obtain ⟨qx0, qx1, -, -⟩ := Kx_11.out.two
    go_wp2_with fail
    refine (markView_any n 1 _ Nx_11.out (by omega) (by omega) (by omega)).mono ?_
    rintro e u12 ⟨rfl, hL, hK⟩
    clear qx0 qx1
    have hk_12 := hid hK
    have z_12 : u11.heap.size ≤ u12.heap.size := hk_12.out.size
    have Ka_12 := hid (Ka_11.out.kp hk_12.out (fun (h : u4.heap.size ≤ w.heap.size ∧ w.heap.size < u5.heap.size) => by omega))
    have Kr_12 := hid (Kr_11.out.kp hk_12.out (fun (h : u4.heap.size ≤ u3.heap.size ∧ u3.heap.size < u5.heap.size) => by omega))
    have Kt_12 := hid (Kt_11.out.kp hk_12.out (fun (h : u4.heap.size ≤ u3.heap.size + 1 ∧ u3.heap.size + 1 < u5.heap.size) => by omega))
    have Kx_12 := hid (Kx_11.out.kp hk_12.out (fun (h : u4.heap.size ≤ u5.heap.size ∧ u5.heap.size < u5.heap.size) => by omega))
    have Kp_12 := hid (Kp_11.out.kp hk_12.out (fun (h : u4.heap.size ≤ u7.heap.size ∧ u7.heap.size < u5.heap.size) => by omega))
    have Kq_12 := hid (Kq_11.out.kp hk_12.out (fun (h : u4.heap.size ≤ u7.heap.size + 1 ∧ u7.heap.size + 1 < u5.heap.size) => by omega))
    have Nr_12 := hid (Nr_11.out.kp hk_12.out (fun b h1 h2 (h3 : u4.heap.size ≤ b ∧ b < u5.heap.size) => by omega))
    have Nt_12 := hid (Nt_11.out.kp hk_12.out (fun b h1 h2 (h3 : u4.heap.size ≤ b ∧ b < u5.heap.size) => by omega))
    have Np_12 := hid (Np_11.out.kp hk_12.out (fun b h1 h2 (h3 : u4.heap.size ≤ b ∧ b < u5.heap.size) => by omega))
    have Nq_12 := hid (Nq_11.out.kp hk_12.out (fun b h1 h2 (h3 : u4.heap.size ≤ b ∧ b < u5.heap.size) => by omega))
    have B_12 := hid (B_11.out.trans (hk_12.out.base (by omega) (fun b (h : u4.heap.size ≤ b ∧ b < u5.heap.size) => by omega)))
    clear Ka_11 Kr_11 Kt_11 Kx_11 Kp_11 Kq_11 Nr_11 Nt_11 Nx_11 Np_11 Nq_11 B_11
    clear hk_12
    have Nx_12 := hid hL
    clear hL hK
    have gk : ¬ (1 + (zs.length : Int) < 0) := by omega
    obtain ⟨qp0, qp1, -, -⟩ := Kp_12.out.two
    obtain ⟨qr0, qr1, -, -⟩ := Kr_12.out.two
    go_wp2_with fail
    refine (eqView_same on _ Np_12.out.at_ Nr_12.out.at_ (by omega)).mono ?_
    rintro e u13 ⟨rfl, hb⟩
    clear qp0 qp1 qr0 qr1
    have hb_13 := hid hb
    have Ka_13 := hid (Ka_12.out.step hb_13.out)
    have Kr_13 := hid (Kr_12.out.step hb_13.out)
    have Kt_13 := hid (Kt_12.out.step hb_13.out)
    have Kx_13 := hid (Kx_12.out.step hb_13.out)
    have Kp_13 := hid (Kp_12.out.step hb_13.out)
    have Kq_13 := hid (Kq_12.out.step hb_13.out)
    have Nr_13 := hid (Nr_12.out.step hb_13.out)
    have Nt_13 := hid (Nt_12.out.step hb_13.out)
    have Nx_13 := hid (Nx_12.out.step hb_13.out)
    have Np_13 := hid (Np_12.out.step hb_13.out)
    have Nq_13 := hid (Nq_12.out.step hb_13.out)
    have B_13 := hid (B_12.out.trans (hb_13.out.mono (by omega)))
    have z_13 : u12.heap.size ≤ u13.heap.size := hb_13.out.size
    clear Ka_12 Kr_12 Kt_12 Kx_12 Kp_12 Kq_12 Nr_12 Nt_12 Nx_12 Np_12 Nq_12 B_12
    clear hb_13
    clear hb
    obtain ⟨qq0, qq1, -, -⟩ := Kq_13.out.two
    obtain ⟨qt0, qt1, -, -⟩ := Kt_13.out.two
    go_wp2_with fail
    refine (eqView_same pn _ Nq_13.out.at_ Nt_13.out.at_ (by omega)).mono ?_
    rintro e u14 ⟨rfl, hb⟩
    clear qq0 qq1 qt0 qt1
    have hb_14 := hid hb
    have Ka_14 := hid (Ka_13.out.step hb_14.out)
    have Kr_14 := hid (Kr_13.out.step hb_14.out)
    have Kt_14 := hid (Kt_13.out.step hb_14.out)
    have Kx_14 := hid (Kx_13.out.step hb_14.out)
    have Kp_14 := hid (Kp_13.out.step hb_14.out)
    have Kq_14 := hid (Kq_13.out.step hb_14.out)
    have Nr_14 := hid (Nr_13.out.step hb_14.out)
    have Nt_14 := hid (Nt_13.out.step hb_14.out)
    have Nx_14 := hid (Nx_13.out.step hb_14.out)
    have Np_14 := hid (Np_13.out.step hb_14.out)
    have Nq_14 := hid (Nq_13.out.step hb_14.out)
    have B_14 := hid (B_13.out.trans (hb_14.out.mono (by omega)))
    have z_14 : u13.heap.size ≤ u14.heap.size := hb_14.out.size
    clear Ka_13 Kr_13 Kt_13 Kx_13 Kp_13 Kq_13 Nr_13 Nt_13 Nx_13 Np_13 Nq_13 B_13
    clear hb_14
    clear hb
    clear Nx_14
    clear Kx_14
    obtain ⟨qp0, qp1, -, -⟩ := Kp_14.out.two
    go_wp2_with fail
    refine (markView_any on 1 _ Np_14.out (by omega) (by omega) (by omega)).mono ?_
    rintro e u15 ⟨rfl, hL, hK⟩
    clear qp0 qp1
    have hk_15 := hid hK
    have z_15 : u14.heap.size ≤ u15.heap.size := hk_15.out.size
    have Ka_15 := hid (Ka_14.out.kp hk_15.out (fun (h : u6.heap.size ≤ w.heap.size ∧ w.heap.size < m2) => by omega))
    have Kr_15 := hid (Kr_14.out.kp hk_15.out (fun (h : u6.heap.size ≤ u3.heap.size ∧ u3.heap.size < m2) => by omega))
    have Kt_15 := hid (Kt_14.out.kp hk_15.out (fun (h : u6.heap.size ≤ u3.heap.size + 1 ∧ u3.heap.size + 1 < m2) => by omega))
    have Kp_15 := hid (Kp_14.out.kp hk_15.out (fun (h : u6.heap.size ≤ u7.heap.size ∧ u7.heap.size < m2) => by omega))
    have Kq_15 := hid (Kq_14.out.kp hk_15.out (fun (h : u6.heap.size ≤ u7.heap.size + 1 ∧ u7.heap.size + 1 < m2) => by omega))
    have Nr_15 := hid (Nr_14.out.kp hk_15.out (fun b h1 h2 (h3 : u6.heap.size ≤ b ∧ b < m2) => by omega))
    have Nt_15 := hid (Nt_14.out.kp hk_15.out (fun b h1 h2 (h3 : u6.heap.size ≤ b ∧ b < m2) => by omega))
    have Nq_15 := hid (Nq_14.out.kp hk_15.out (fun b h1 h2 (h3 : u6.heap.size ≤ b ∧ b < m2) => by omega))
    have B_15 := hid (B_14.out.trans (hk_15.out.base (by omega) (fun b (h : u6.heap.size ≤ b ∧ b < m2) => by omega)))
    clear Ka_14 Kr_14 Kt_14 Kp_14 Kq_14 Nr_14 Nt_14 Np_14 Nq_14 B_14
    clear hk_15
    have Np_15 := hid hL
    clear hL hK
    obtain ⟨qq0, qq1, -, -⟩ := Kq_15.out.two
    go_wp2_with fail
    refine (markView_any pn (1 + (oz.length : Int)) _ Nq_15.out (by omega) (by omega) (by omega)).mono ?_
    rintro e u16 ⟨rfl, hL, hK⟩
    clear qq0 qq1
    have hk_16 := hid hK
    have z_16 : u15.heap.size ≤ u16.heap.size := hk_16.out.size
    have Ka_16 := hid (Ka_15.out.kp hk_16.out (fun (h : m2 ≤ w.heap.size ∧ w.heap.size < u7.heap.size) => by omega))
    have Kr_16 := hid (Kr_15.out.kp hk_16.out (fun (h : m2 ≤ u3.heap.size ∧ u3.heap.size < u7.heap.size) => by omega))
    have Kt_16 := hid (Kt_15.out.kp hk_16.out (fun (h : m2 ≤ u3.heap.size + 1 ∧ u3.heap.size + 1 < u7.heap.size) => by omega))
    have Kp_16 := hid (Kp_15.out.kp hk_16.out (fun (h : m2 ≤ u7.heap.size ∧ u7.heap.size < u7.heap.size) => by omega))
    have Kq_16 := hid (Kq_15.out.kp hk_16.out (fun (h : m2 ≤ u7.heap.size + 1 ∧ u7.heap.size + 1 < u7.heap.size) => by omega))
    have Nr_16 := hid (Nr_15.out.kp hk_16.out (fun b h1 h2 (h3 : m2 ≤ b ∧ b < u7.heap.size) => by omega))
    have Nt_16 := hid (Nt_15.out.kp hk_16.out (fun b h1 h2 (h3 : m2 ≤ b ∧ b < u7.heap.size) => by omega))
    have Np_16 := hid (Np_15.out.kp hk_16.out (fun b h1 h2 (h3 : m2 ≤ b ∧ b < u7.heap.size) => by omega))
    have B_16 := hid (B_15.out.trans (hk_16.out.base (by omega) (fun b (h : m2 ≤ b ∧ b < u7.heap.size) => by omega)))
    clear Ka_15 Kr_15 Kt_15 Kp_15 Kq_15 Nr_15 Nt_15 Np_15 Nq_15 B_15
    clear hk_16
    have Nq_16 := hid hL
    clear hL hK
    have gm : ¬ (1 + (oz.length : Int) < 0) := by omega
    have gm2 : ¬ (1 + (oz.length : Int) + (pz.length : Int) < 0) := by omega
    have gmm : ((1 + (oz.length : Int) + (pz.length : Int)) != (1 + (oz.length : Int) + (pz.length : Int))) = false := by simp
    obtain ⟨qp0, qp1, -, -⟩ := Kp_16.out.two
    go_wp2_with fail
    refine (heldView_any on 1 _ Np_16.out.at_ (by omega) (by omega) (by omega)).mono ?_
    rintro e u17 ⟨rfl, hb⟩
    clear qp0 qp1
    have hb_17 := hid hb
    have Ka_17 := hid (Ka_16.out.step hb_17.out)
    have Kr_17 := hid (Kr_16.out.step hb_17.out)
    have Kt_17 := hid (Kt_16.out.step hb_17.out)
    have Kp_17 := hid (Kp_16.out.step hb_17.out)
    have Kq_17 := hid (Kq_16.out.step hb_17.out)
    have Nr_17 := hid (Nr_16.out.step hb_17.out)
    have Nt_17 := hid (Nt_16.out.step hb_17.out)
    have Np_17 := hid (Np_16.out.step hb_17.out)
    have Nq_17 := hid (Nq_16.out.step hb_17.out)
    have B_17 := hid (B_16.out.trans (hb_17.out.mono (by omega)))
    have z_17 : u16.heap.size ≤ u17.heap.size := hb_17.out.size
    clear Ka_16 Kr_16 Kt_16 Kp_16 Kq_16 Nr_16 Nt_16 Np_16 Nq_16 B_16
    clear hb_17
    clear hb
    obtain ⟨qq0, qq1, -, -⟩ := Kq_17.out.two
    go_wp2_with fail
    refine (heldView_any pn (1 + (oz.length : Int)) _ Nq_17.out.at_ (by omega) (by omega) (by omega)).mono ?_
    rintro e u18 ⟨rfl, hb⟩
    clear qq0 qq1
    have hb_18 := hid hb
    have Ka_18 := hid (Ka_17.out.step hb_18.out)
    have Kr_18 := hid (Kr_17.out.step hb_18.out)
    have Kt_18 := hid (Kt_17.out.step hb_18.out)
    have Kp_18 := hid (Kp_17.out.step hb_18.out)
    have Kq_18 := hid (Kq_17.out.step hb_18.out)
    have Nr_18 := hid (Nr_17.out.step hb_18.out)
    have Nt_18 := hid (Nt_17.out.step hb_18.out)
    have Np_18 := hid (Np_17.out.step hb_18.out)
    have Nq_18 := hid (Nq_17.out.step hb_18.out)
    have B_18 := hid (B_17.out.trans (hb_18.out.mono (by omega)))
    have z_18 : u17.heap.size ≤ u18.heap.size := hb_18.out.size
    clear Ka_17 Kr_17 Kt_17 Kp_17 Kq_17 Nr_17 Nt_17 Np_17 Nq_17 B_17
    clear hb_18
    clear hb
    obtain ⟨qa0, qa1, -, -⟩ := Ka_18.out.two
    go_wp2_with fail
    refine (toView_any n _ ((Reads.below hx.out B_18.out).more B_18.out.size) (by omega)).mono ?_
    rintro e u19 ⟨Ay, cy, rfl, oy, hb⟩
    clear qa0 qa1
    have hb_19 := hid hb
    have Ka_19 := hid (Ka_18.out.step hb_19.out)
    have Kr_19 := hid (Kr_18.out.step hb_19.out)
    have Kt_19 := hid (Kt_18.out.step hb_19.out)
    have Kp_19 := hid (Kp_18.out.step hb_19.out)
    have Kq_19 := hid (Kq_18.out.step hb_19.out)
    have Nr_19 := hid (Nr_18.out.step hb_19.out)
    have Nt_19 := hid (Nt_18.out.step hb_19.out)
    have Np_19 := hid (Np_18.out.step hb_19.out)
    have Nq_19 := hid (Nq_18.out.step hb_19.out)
    have B_19 := hid (B_18.out.trans (hb_19.out.mono (by omega)))
    have z_19 : u18.heap.size ≤ u19.heap.size := hb_19.out.size
    clear Ka_18 Kr_18 Kt_18 Kp_18 Kq_18 Nr_18 Nt_18 Np_18 Nq_18 B_18
    clear hb_19
    clear hb
    have Ny_19 := hid (Lv.ofI oy)
    clear oy
    go_wp2_with fail
    refine ((ViewSplit_impl n x _ Ny_19.out.at_ Ny_19.out.capS (by omega) (Sn.below sB.out B_19.out)).mono fun _ _ h => SPost.xm hR.out h).mono ?_
    rintro e u20 ⟨Ag, cg, Ah, ch, m3, rfl, og, oh, m3a, m3b, hb⟩
    have hb_20 := hid hb
    have Ka_20 := hid (Ka_19.out.step hb_20.out)
    have Kr_20 := hid (Kr_19.out.step hb_20.out)
    have Kt_20 := hid (Kt_19.out.step hb_20.out)
    have Kp_20 := hid (Kp_19.out.step hb_20.out)
    have Kq_20 := hid (Kq_19.out.step hb_20.out)
    have Nr_20 := hid (Nr_19.out.step hb_20.out)
    have Nt_20 := hid (Nt_19.out.step hb_20.out)
    have Np_20 := hid (Np_19.out.step hb_20.out)
    have Nq_20 := hid (Nq_19.out.step hb_20.out)
    have Ny_20 := hid (Ny_19.out.step hb_20.out)
    have B_20 := hid (B_19.out.trans (hb_20.out.mono (by omega)))
    have z_20 : u19.heap.size ≤ u20.heap.size := hb_20.out.size
    clear Ka_19 Kr_19 Kt_19 Kp_19 Kq_19 Nr_19 Nt_19 Np_19 Nq_19 Ny_19 B_19
    clear hb_20
    clear hb
    have Ng_20 := hid (show Lv u20 u19.heap.size m3 (.slice Ag oz.length cg) oz from ⟨og, m3b⟩)
    clear og
    have Nh_20 := hid (Lv.ofI oh)
    clear oh
    go_upto_region 29 with (fail)
    obtain ⟨u21, hu⟩ : ∃ W, ((u20.alloc (.cells #[.int .i64 on, .slice Ag oz.length cg] 26)).alloc (.cells #[.int .i64 pn, .slice Ah pz.length ch] 26)) = W := ⟨_, rfl⟩
    rw [hu]
    have hb : Below u20.heap.size u20 u21 := by rw [← hu]; exact below2 _ _ _
    have hcg : Cs u21 (u20.heap.size) 26 #[.int .i64 on, .slice Ag oz.length cg] := by rw [← hu]; exact (Cs.new _ _ _).alloc _
    have hch : Cs u21 (u20.heap.size + 1) 26 #[.int .i64 pn, .slice Ah pz.length ch] := by rw [← hu]; exact Cs.new' _ _ _ (by simp)
    clear hu
    have hb_21 := hid hb
    have Ka_21 := hid (Ka_20.out.step hb_21.out)
    have Kr_21 := hid (Kr_20.out.step hb_21.out)
    have Kt_21 := hid (Kt_20.out.step hb_21.out)
    have Kp_21 := hid (Kp_20.out.step hb_21.out)
    have Kq_21 := hid (Kq_20.out.step hb_21.out)
    have Nr_21 := hid (Nr_20.out.step hb_21.out)
    have Nt_21 := hid (Nt_20.out.step hb_21.out)
    have Np_21 := hid (Np_20.out.step hb_21.out)
    have Nq_21 := hid (Nq_20.out.step hb_21.out)
    have Ny_21 := hid (Ny_20.out.step hb_21.out)
    have Ng_21 := hid (Ng_20.out.step hb_21.out)
    have Nh_21 := hid (Nh_20.out.step hb_21.out)
    have B_21 := hid (B_20.out.trans (hb_21.out.mono (by omega)))
    have z_21 : u20.heap.size ≤ u21.heap.size := hb_21.out.size
    clear Ka_20 Kr_20 Kt_20 Kp_20 Kq_20 Nr_20 Nt_20 Np_20 Nq_20 Ny_20 Ng_20 Nh_20 B_20
    clear hb_21
    clear hb
    have Kg_21 := hid hcg
    have yg_21 : u20.heap.size < u21.heap.size := hcg.lt
    clear hcg
    have Kh_21 := hid hch
    have yh_21 : u20.heap.size + 1 < u21.heap.size := hch.lt
    clear hch
    clear Ny_21
    obtain ⟨qg0, qg1, -, -⟩ := Kg_21.out.two
    obtain ⟨qr0, qr1, -, -⟩ := Kr_21.out.two
    go_wp2_with fail
    refine (eqView_same on _ Ng_21.out.at_ Nr_21.out.at_ (by omega)).mono ?_
    rintro e u22 ⟨rfl, hb⟩
    clear qg0 qg1 qr0 qr1
    have hb_22 := hid hb
    have Ka_22 := hid (Ka_21.out.step hb_22.out)
    have Kr_22 := hid (Kr_21.out.step hb_22.out)
    have Kt_22 := hid (Kt_21.out.step hb_22.out)
    have Kp_22 := hid (Kp_21.out.step hb_22.out)
    have Kq_22 := hid (Kq_21.out.step hb_22.out)
    have Kg_22 := hid (Kg_21.out.step hb_22.out)
    have Kh_22 := hid (Kh_21.out.step hb_22.out)
    have Nr_22 := hid (Nr_21.out.step hb_22.out)
    have Nt_22 := hid (Nt_21.out.step hb_22.out)
    have Np_22 := hid (Np_21.out.step hb_22.out)
    have Nq_22 := hid (Nq_21.out.step hb_22.out)
    have Ng_22 := hid (Ng_21.out.step hb_22.out)
    have Nh_22 := hid (Nh_21.out.step hb_22.out)
    have B_22 := hid (B_21.out.trans (hb_22.out.mono (by omega)))
    have z_22 : u21.heap.size ≤ u22.heap.size := hb_22.out.size
    clear Ka_21 Kr_21 Kt_21 Kp_21 Kq_21 Kg_21 Kh_21 Nr_21 Nt_21 Np_21 Nq_21 Ng_21 Nh_21 B_21
    clear hb_22
    clear hb
    obtain ⟨qh0, qh1, -, -⟩ := Kh_22.out.two
    obtain ⟨qt0, qt1, -, -⟩ := Kt_22.out.two
    go_wp2_with fail
    refine (eqView_same pn _ Nh_22.out.at_ Nt_22.out.at_ (by omega)).mono ?_
    rintro e u23 ⟨rfl, hb⟩
    clear qh0 qh1 qt0 qt1
    have hb_23 := hid hb
    have Ka_23 := hid (Ka_22.out.step hb_23.out)
    have Kr_23 := hid (Kr_22.out.step hb_23.out)
    have Kt_23 := hid (Kt_22.out.step hb_23.out)
    have Kp_23 := hid (Kp_22.out.step hb_23.out)
    have Kq_23 := hid (Kq_22.out.step hb_23.out)
    have Kg_23 := hid (Kg_22.out.step hb_23.out)
    have Kh_23 := hid (Kh_22.out.step hb_23.out)
    have Nr_23 := hid (Nr_22.out.step hb_23.out)
    have Nt_23 := hid (Nt_22.out.step hb_23.out)
    have Np_23 := hid (Np_22.out.step hb_23.out)
    have Nq_23 := hid (Nq_22.out.step hb_23.out)
    have Ng_23 := hid (Ng_22.out.step hb_23.out)
    have Nh_23 := hid (Nh_22.out.step hb_23.out)
    have B_23 := hid (B_22.out.trans (hb_23.out.mono (by omega)))
    have z_23 : u22.heap.size ≤ u23.heap.size := hb_23.out.size
    clear Ka_22 Kr_22 Kt_22 Kp_22 Kq_22 Kg_22 Kh_22 Nr_22 Nt_22 Np_22 Nq_22 Ng_22 Nh_22 B_22
    clear hb_23
    clear hb
    obtain ⟨qp0, qp1, -, -⟩ := Kp_23.out.two
    go_wp2_with fail
    refine (heldView_any on 1 _ Np_23.out.at_ (by omega) (by omega) (by omega)).mono ?_
    rintro e u24 ⟨rfl, hb⟩
    clear qp0 qp1
    have hb_24 := hid hb
    have Ka_24 := hid (Ka_23.out.step hb_24.out)
    have Kr_24 := hid (Kr_23.out.step hb_24.out)
    have Kt_24 := hid (Kt_23.out.step hb_24.out)
    have Kp_24 := hid (Kp_23.out.step hb_24.out)
    have Kq_24 := hid (Kq_23.out.step hb_24.out)
    have Kg_24 := hid (Kg_23.out.step hb_24.out)
    have Kh_24 := hid (Kh_23.out.step hb_24.out)
    have Nr_24 := hid (Nr_23.out.step hb_24.out)
    have Nt_24 := hid (Nt_23.out.step hb_24.out)
    have Np_24 := hid (Np_23.out.step hb_24.out)
    have Nq_24 := hid (Nq_23.out.step hb_24.out)
    have Ng_24 := hid (Ng_23.out.step hb_24.out)
    have Nh_24 := hid (Nh_23.out.step hb_24.out)
    have B_24 := hid (B_23.out.trans (hb_24.out.mono (by omega)))
    have z_24 : u23.heap.size ≤ u24.heap.size := hb_24.out.size
    clear Ka_23 Kr_23 Kt_23 Kp_23 Kq_23 Kg_23 Kh_23 Nr_23 Nt_23 Np_23 Nq_23 Ng_23 Nh_23 B_23
    clear hb_24
    clear hb
    obtain ⟨qq0, qq1, -, -⟩ := Kq_24.out.two
    go_wp2_with fail
    refine (heldView_any pn (1 + (oz.length : Int)) _ Nq_24.out.at_ (by omega) (by omega) (by omega)).mono ?_
    rintro e u25 ⟨rfl, hb⟩
    clear qq0 qq1
    have hb_25 := hid hb
    have Ka_25 := hid (Ka_24.out.step hb_25.out)
    have Kr_25 := hid (Kr_24.out.step hb_25.out)
    have Kt_25 := hid (Kt_24.out.step hb_25.out)
    have Kp_25 := hid (Kp_24.out.step hb_25.out)
    have Kq_25 := hid (Kq_24.out.step hb_25.out)
    have Kg_25 := hid (Kg_24.out.step hb_25.out)
    have Kh_25 := hid (Kh_24.out.step hb_25.out)
    have Nr_25 := hid (Nr_24.out.step hb_25.out)
    have Nt_25 := hid (Nt_24.out.step hb_25.out)
    have Np_25 := hid (Np_24.out.step hb_25.out)
    have Nq_25 := hid (Nq_24.out.step hb_25.out)
    have Ng_25 := hid (Ng_24.out.step hb_25.out)
    have Nh_25 := hid (Nh_24.out.step hb_25.out)
    have B_25 := hid (B_24.out.trans (hb_25.out.mono (by omega)))
    have z_25 : u24.heap.size ≤ u25.heap.size := hb_25.out.size
    clear Ka_24 Kr_24 Kt_24 Kp_24 Kq_24 Kg_24 Kh_24 Nr_24 Nt_24 Np_24 Nq_24 Ng_24 Nh_24 B_24
    clear hb_25
    clear hb
    go_wp2
    go_ret
    exact ⟨rfl, B_25.out⟩
  · obtain ⟨qa0, qa1, -, -⟩ := Ka_0.out.two
    go_enter Tryd.func5, Tryd.ntmps5
    go_upto_region 2 with (fail)
    rw [hu0.out]
    go_wp2_with fail
    refine (szView_n n _ (by omega) (by omega) (by omega) (by omega)).mono ?_
    rintro e w1 ⟨rfl, hb⟩
    have hB := hid (B_0.out.trans (hb.mono (by omega)))
    clear hb
    go_wp2
    go_ret
    exact ⟨rfl, hB.out⟩

end Go.Proofs.YtohbbpmjoaklhaaDoor
