/-
  The walks of the exact laws of ViewJoin and ViewLeave: the law returns true and writes nothing that was there. No condition.
-/
import Derived.Test.YtohbbpmjoaklhaaDoorVxA
import Derived.Test.YtohbbpmjoaklhaaDoorVwF
import Derived.Test.YtohbbpmjoaklhaaDoorVwG
import Derived.Deep.CutBlock
import Derived.Deep.RegionLaw
import Derived.Deep.RegionHeld3
import Derived.Deep.DeepCutAuto
namespace Go.Proofs.YtohbbpmjoaklhaaDoor
open Go.RowKit
set_option linter.unusedVariables false
set_option linter.unusedSimpArgs false

theorem Lv.cap {w : World} {lo hi n c : Nat} {A : Option Addr} {zs : List Int} (h : Lv w lo hi (.slice A n c) zs) : n ≤ c ∧ c ≤ 9223372036854775807 := (OwI.capV h.1.1).2
/-- what a call that makes a view hands back, laid open -/
def VX (on : Int) (oz : List Int) (ok : Bool) (w : World) (e : Ending) (w' : World) : Prop := ∃ A c, e = .returned (.tuple #[vwV on (.slice A oz.length c), .bool ok]) ∧ OwI w' w.heap.size (.slice A oz.length c) oz ∧ Below w.heap.size w w'

theorem VPost.x {r : Vr} {on : Int} {oz : List Int} {ok : Bool} (hr : r = ((on, oz), ok)) {w : World} {e : Ending} {w' : World} (h : VPost r w e w') : VX on oz ok w e w' := by
  subst hr; exact h

theorem vwR_len {n : Int} {zs : List Int} {on : Int} {oz : List Int} {ok : Bool} (h : vwR n zs = ((on, oz), ok)) : oz.length ≤ 8 := by
  unfold vwR at h
  split at h
  · rename_i hv
    injection h with h _
    injection h with _ h
    rw [← h]; exact (vwB_true.1 hv).2.2.len
  · injection h with h _
    injection h with _ h
    rw [← h]; simp

theorem joinR_len {n x : Int} {zs : List Int} {on : Int} {oz : List Int} {ok : Bool} (h : joinR n zs x = ((on, oz), ok)) : oz.length ≤ 8 := by
  unfold joinR at h
  split at h
  · exact vwR_len h
  · injection h with h _
    injection h with _ h
    rw [← h]; simp

set_option maxRecDepth 100000 in
set_option maxHeartbeats 16000000 in
theorem exViewJoin {l c : Nat} {A : Option Addr} {zs : List Int} {a1 a2 : Addr} (n x : Int) (w : World) (hr : RdI w w.heap.size A l zs) (hn : l ≤ maxLen) (sB : Sn w 1 a2) (sA : Sn w 0 a1) :
    Calls Tryd.prog 3 #[vwV n (.slice A l c), .int .i64 x] w fun e w' => e = .returned (.bool true) ∧ Below w.heap.size w w' := by
  unfold maxLen at hn
  obtain rfl := hr.len
  have hx := hid hr
  have sB := hid sB
  have sA := hid sA
  clear hr
  obtain ⟨u0, hu0⟩ : ∃ W, w.alloc (.cells #[.int .i64 n, .slice A zs.length c] 24) = W := ⟨_, rfl⟩
  have B_0 := hid (show Below w.heap.size w u0 by rw [← hu0]; exact below1 _ _)
  have Ka_0 := hid (show Cs u0 w.heap.size 24 #[.int .i64 n, .slice A zs.length c] by rw [← hu0]; exact Cs.new _ _ _)
  have ya_0 : w.heap.size < u0.heap.size := Ka_0.out.lt
  replace hu0 := hid hu0
  by_cases hbig : (zs.length : Int) ≤ 1048576
  · have gz : ¬ (1048576 - (zs.length : Int) < 0) := by omega
    have hl20 : zs.length ≤ 1048576 := by omega
    obtain ⟨on, oz, ok, hR⟩ : ∃ on oz ok, joinR n zs x = ((on, oz), ok) := ⟨_, _, _, rfl⟩
    have hol := joinR_len hR
    replace hR := hid hR
    go_enter Tryd.func3, Tryd.ntmps3
    go_upto_region 2 with (fail)
    rw [hu0.out]
    obtain ⟨qa0, qa1, -, -⟩ := Ka_0.out.two
    go_wp2_with fail
    refine (szView_y n _ hbig (by omega) (by omega)).mono ?_
    rintro e u1 ⟨rfl, hb⟩
    clear qa0 qa1
    have hb_1 := hid hb
    have Ka_1 := hid (Ka_0.out.step hb_1.out)
    have B_1 := hid (B_0.out.trans (hb_1.out.mono (by omega)))
    have z_1 : u0.heap.size ≤ u1.heap.size := hb_1.out.size
    clear Ka_0 B_0
    clear hb_1
    clear hb
    obtain ⟨qa0, qa1, -, -⟩ := Ka_1.out.two
    go_wp2_with fail
    refine (toView_any n _ ((Reads.below hx.out B_1.out).more B_1.out.size) (by omega)).mono ?_
    rintro e u2 ⟨Ap, cp, rfl, op, hb⟩
    clear qa0 qa1
    have hb_2 := hid hb
    have Ka_2 := hid (Ka_1.out.step hb_2.out)
    have B_2 := hid (B_1.out.trans (hb_2.out.mono (by omega)))
    have z_2 : u1.heap.size ≤ u2.heap.size := hb_2.out.size
    clear Ka_1 B_1
    clear hb_2
    clear hb
    have Np_2 := hid (Lv.ofI op)
    clear op
    have hbb : (ok != ok) = false := by cases ok <;> rfl
    go_wp2_with fail
    refine (((ViewJoin_spec n x _ Np_2.out.at_ Np_2.out.cap (by omega)).mono fun _ _ h => VPost.x hR.out h)).mono ?_
    rintro e u3 ⟨Aw, cw, rfl, ow, hb⟩
    have hb_3 := hid hb
    have Ka_3 := hid (Ka_2.out.step hb_3.out)
    have Np_3 := hid (Np_2.out.step hb_3.out)
    have B_3 := hid (B_2.out.trans (hb_3.out.mono (by omega)))
    have z_3 : u2.heap.size ≤ u3.heap.size := hb_3.out.size
    clear Ka_2 Np_2 B_2
    clear hb_3
    clear hb
    have Nw_3 := hid (Lv.ofI ow)
    clear ow
    clear Np_3
    go_upto_region 6 with (fail)
    obtain ⟨u4, hu⟩ : ∃ W, (u3.alloc (.cells #[.int .i64 on, .slice Aw oz.length cw] 26)) = W := ⟨_, rfl⟩
    rw [hu]
    have hb : Below u3.heap.size u3 u4 := by rw [← hu]; exact below1 _ _
    have hcw : Cs u4 (u3.heap.size) 26 #[.int .i64 on, .slice Aw oz.length cw] := by rw [← hu]; exact Cs.new _ _ _
    clear hu
    have hb_4 := hid hb
    have Ka_4 := hid (Ka_3.out.step hb_4.out)
    have Nw_4 := hid (Nw_3.out.step hb_4.out)
    have B_4 := hid (B_3.out.trans (hb_4.out.mono (by omega)))
    have z_4 : u3.heap.size ≤ u4.heap.size := hb_4.out.size
    clear Ka_3 Nw_3 B_3
    clear hb_4
    clear hb
    have Kw_4 := hid hcw
    have yw_4 : u3.heap.size < u4.heap.size := hcw.lt
    clear hcw
    obtain ⟨qa0, qa1, -, -⟩ := Ka_4.out.two
    go_wp2_with fail
    refine (toView_any n _ ((Reads.below hx.out B_4.out).more B_4.out.size) (by omega)).mono ?_
    rintro e u5 ⟨Ax, cx, rfl, ox, hb⟩
    clear qa0 qa1
    have hb_5 := hid hb
    have Ka_5 := hid (Ka_4.out.step hb_5.out)
    have Kw_5 := hid (Kw_4.out.step hb_5.out)
    have Nw_5 := hid (Nw_4.out.step hb_5.out)
    have B_5 := hid (B_4.out.trans (hb_5.out.mono (by omega)))
    have z_5 : u4.heap.size ≤ u5.heap.size := hb_5.out.size
    clear Ka_4 Kw_4 Nw_4 B_4
    clear hb_5
    clear hb
    have Nx_5 := hid (Lv.ofI ox)
    clear ox
    go_upto_region 7 with (fail)
    obtain ⟨u6, hu⟩ : ∃ W, (u5.alloc (.cells #[.int .i64 n, .slice Ax zs.length cx] 26)) = W := ⟨_, rfl⟩
    rw [hu]
    have hb : Below u5.heap.size u5 u6 := by rw [← hu]; exact below1 _ _
    have hcx : Cs u6 (u5.heap.size) 26 #[.int .i64 n, .slice Ax zs.length cx] := by rw [← hu]; exact Cs.new _ _ _
    clear hu
    have hb_6 := hid hb
    have Ka_6 := hid (Ka_5.out.step hb_6.out)
    have Kw_6 := hid (Kw_5.out.step hb_6.out)
    have Nw_6 := hid (Nw_5.out.step hb_6.out)
    have Nx_6 := hid (Nx_5.out.step hb_6.out)
    have B_6 := hid (B_5.out.trans (hb_6.out.mono (by omega)))
    have z_6 : u5.heap.size ≤ u6.heap.size := hb_6.out.size
    clear Ka_5 Kw_5 Nw_5 Nx_5 B_5
    clear hb_6
    clear hb
    have Kx_6 := hid hcx
    have yx_6 : u5.heap.size < u6.heap.size := hcx.lt
    clear hcx
    obtain ⟨qx0, qx1, -, -⟩ := Kx_6.out.two
    go_wp2_with fail
    refine (((ViewJoin_impl n x _ Nx_6.out.at_ Nx_6.out.cap (by omega) (Sn.below sA.out B_6.out) (Sn.below sB.out B_6.out)).mono fun _ _ h => VPost.x hR.out h)).mono ?_
    rintro e u7 ⟨Ag, cg, rfl, og, hb⟩
    clear qx0 qx1
    have hb_7 := hid hb
    have Ka_7 := hid (Ka_6.out.step hb_7.out)
    have Kw_7 := hid (Kw_6.out.step hb_7.out)
    have Kx_7 := hid (Kx_6.out.step hb_7.out)
    have Nw_7 := hid (Nw_6.out.step hb_7.out)
    have Nx_7 := hid (Nx_6.out.step hb_7.out)
    have B_7 := hid (B_6.out.trans (hb_7.out.mono (by omega)))
    have z_7 : u6.heap.size ≤ u7.heap.size := hb_7.out.size
    clear Ka_6 Kw_6 Kx_6 Nw_6 Nx_6 B_6
    clear hb_7
    clear hb
    have Ng_7 := hid (Lv.ofI og)
    clear og
    go_upto_region 8 with (fail)
    obtain ⟨u8, hu⟩ : ∃ W, (u7.alloc (.cells #[.int .i64 on, .slice Ag oz.length cg] 26)) = W := ⟨_, rfl⟩
    rw [hu]
    have hb : Below u7.heap.size u7 u8 := by rw [← hu]; exact below1 _ _
    have hcg : Cs u8 (u7.heap.size) 26 #[.int .i64 on, .slice Ag oz.length cg] := by rw [← hu]; exact Cs.new _ _ _
    clear hu
    have hb_8 := hid hb
    have Ka_8 := hid (Ka_7.out.step hb_8.out)
    have Kw_8 := hid (Kw_7.out.step hb_8.out)
    have Kx_8 := hid (Kx_7.out.step hb_8.out)
    have Nw_8 := hid (Nw_7.out.step hb_8.out)
    have Nx_8 := hid (Nx_7.out.step hb_8.out)
    have Ng_8 := hid (Ng_7.out.step hb_8.out)
    have B_8 := hid (B_7.out.trans (hb_8.out.mono (by omega)))
    have z_8 : u7.heap.size ≤ u8.heap.size := hb_8.out.size
    clear Ka_7 Kw_7 Kx_7 Nw_7 Nx_7 Ng_7 B_7
    clear hb_8
    clear hb
    have Kg_8 := hid hcg
    have yg_8 : u7.heap.size < u8.heap.size := hcg.lt
    clear hcg
    obtain ⟨qg0, qg1, -, -⟩ := Kg_8.out.two
    obtain ⟨qw0, qw1, -, -⟩ := Kw_8.out.two
    go_wp2_with fail
    refine (eqView_same on _ Ng_8.out.at_ Nw_8.out.at_ (by omega)).mono ?_
    rintro e u9 ⟨rfl, hb⟩
    clear qg0 qg1 qw0 qw1
    have hb_9 := hid hb
    have Ka_9 := hid (Ka_8.out.step hb_9.out)
    have Kw_9 := hid (Kw_8.out.step hb_9.out)
    have Kx_9 := hid (Kx_8.out.step hb_9.out)
    have Kg_9 := hid (Kg_8.out.step hb_9.out)
    have Nw_9 := hid (Nw_8.out.step hb_9.out)
    have Nx_9 := hid (Nx_8.out.step hb_9.out)
    have Ng_9 := hid (Ng_8.out.step hb_9.out)
    have B_9 := hid (B_8.out.trans (hb_9.out.mono (by omega)))
    have z_9 : u8.heap.size ≤ u9.heap.size := hb_9.out.size
    clear Ka_8 Kw_8 Kx_8 Kg_8 Nw_8 Nx_8 Ng_8 B_8
    clear hb_9
    clear hb
    have hd := hid (Below.refl u9.heap.size u9).drew
    have Ka_d := hid (Ka_9.out.step hd.out)
    have Kw_d := hid (Kw_9.out.step hd.out)
    have Kx_d := hid (Kx_9.out.step hd.out)
    have Kg_d := hid (Kg_9.out.step hd.out)
    have Nw_d := hid (Nw_9.out.step hd.out)
    have Nx_d := hid (Nx_9.out.step hd.out)
    have Ng_d := hid (Ng_9.out.step hd.out)
    have B_d := hid (B_9.out.trans (hd.out.mono (by omega)))
    have z_d : u9.heap.size ≤ u9.drew.heap.size := hd.out.size
    have qe0 := And.intro (And.intro Kx_d.out.two.1 Kx_d.out.two.2.1) (And.intro Ka_d.out.two.1 Ka_d.out.two.2.1)
    have qf0 := And.intro (And.intro Kx_9.out.two.1 Kx_9.out.two.2.1) (And.intro Ka_9.out.two.1 Ka_9.out.two.2.1)
    go_wp2_with fail
    go_region_held3 (fun w' => (w'.cell? ⟨u5.heap.size, 0, none⟩ = some (.int .i64 n) ∧ w'.cell? ⟨u5.heap.size, 1, none⟩ = some (.slice Ax zs.length cx)) ∧ w'.cell? ⟨w.heap.size, 0, none⟩ = some (.int .i64 n) ∧ w'.cell? ⟨w.heap.size, 1, none⟩ = some (.slice A zs.length c))
      (first | with_reducible exact qe0 | with_reducible exact qe1 | with_reducible exact qe2 | with_reducible exact qf0 | go_keep)
      (first | (go_at_call 10; (refine (toView_any n _ ((Reads.below hx.out B_d.out).more B_d.out.size) (by omega)).mono ?_); rintro e ud ⟨Ad, cd, rfl, od, hb⟩; have Ka_e := hid (Ka_d.out.step hb); have Kw_e := hid (Kw_d.out.step hb); have Kx_e := hid (Kx_d.out.step hb); have Kg_e := hid (Kg_d.out.step hb); have Nw_e := hid (Nw_d.out.step hb); have Nx_e := hid (Nx_d.out.step hb); have Ng_e := hid (Ng_d.out.step hb); have B_e := hid (B_d.out.trans (hb.mono (by omega))); have z_e := hb.size; have Nd_e := hid (Lv.ofI od); have qe1 := And.intro (And.intro Kx_e.out.two.1 Kx_e.out.two.2.1) (And.intro Ka_e.out.two.1 Ka_e.out.two.2.1); clear hb od) | (go_at_call 12; (refine (eqView_same n _ Nx_e.out.at_ Nd_e.out.at_ (by omega)).mono ?_); rintro e u10 ⟨rfl, hb⟩; have Ka_10 := hid (Ka_e.out.step hb); have Kw_10 := hid (Kw_e.out.step hb); have Kx_10 := hid (Kx_e.out.step hb); have Kg_10 := hid (Kg_e.out.step hb); have Nw_10 := hid (Nw_e.out.step hb); have Nx_10 := hid (Nx_e.out.step hb); have Ng_10 := hid (Ng_e.out.step hb); have B_10 := hid (B_e.out.trans (hb.mono (by omega))); have z_10 : u9.heap.size ≤ u10.heap.size := Nat.le_trans z_d (Nat.le_trans z_e hb.size); have qe2 := And.intro (And.intro Kx_10.out.two.1 Kx_10.out.two.2.1) (And.intro Ka_10.out.two.1 Ka_10.out.two.2.1); clear hb))
    clear qe0 qf0 qe1 qe2 hd B_d B_e Nd_e z_d z_e
    clear Ka_d Kw_d Kx_d Kg_d Nw_d Nx_d Ng_d
    clear Ka_e Kw_e Kx_e Kg_e Nw_e Nx_e Ng_e
    clear Ka_9 Kw_9 Kx_9 Kg_9 Nw_9 Nx_9 Ng_9 B_9
    obtain ⟨qx0, qx1, -, -⟩ := Kx_10.out.two
    go_wp2_with fail
    refine (markView_any n 1 _ Nx_10.out (by omega) (by omega) (by omega)).mono ?_
    rintro e u11 ⟨rfl, hL, hK⟩
    clear qx0 qx1
    have hk_11 := hid hK
    have z_11 : u10.heap.size ≤ u11.heap.size := hk_11.out.size
    have Ka_11 := hid (Ka_10.out.kp hk_11.out (fun (h : u4.heap.size ≤ w.heap.size ∧ w.heap.size < u5.heap.size) => by omega))
    have Kw_11 := hid (Kw_10.out.kp hk_11.out (fun (h : u4.heap.size ≤ u3.heap.size ∧ u3.heap.size < u5.heap.size) => by omega))
    have Kx_11 := hid (Kx_10.out.kp hk_11.out (fun (h : u4.heap.size ≤ u5.heap.size ∧ u5.heap.size < u5.heap.size) => by omega))
    have Kg_11 := hid (Kg_10.out.kp hk_11.out (fun (h : u4.heap.size ≤ u7.heap.size ∧ u7.heap.size < u5.heap.size) => by omega))
    have Nw_11 := hid (Nw_10.out.kp hk_11.out (fun b h1 h2 (h3 : u4.heap.size ≤ b ∧ b < u5.heap.size) => by omega))
    have Ng_11 := hid (Ng_10.out.kp hk_11.out (fun b h1 h2 (h3 : u4.heap.size ≤ b ∧ b < u5.heap.size) => by omega))
    have B_11 := hid (B_10.out.trans (hk_11.out.base (by omega) (fun b (h : u4.heap.size ≤ b ∧ b < u5.heap.size) => by omega)))
    clear Ka_10 Kw_10 Kx_10 Kg_10 Nw_10 Nx_10 Ng_10 B_10
    clear hk_11
    have Nx_11 := hid hL
    clear hL hK
    have gk : ¬ (1 + (zs.length : Int) < 0) := by omega
    obtain ⟨qg0, qg1, -, -⟩ := Kg_11.out.two
    obtain ⟨qw0, qw1, -, -⟩ := Kw_11.out.two
    go_wp2_with fail
    refine (eqView_same on _ Ng_11.out.at_ Nw_11.out.at_ (by omega)).mono ?_
    rintro e u12 ⟨rfl, hb⟩
    clear qg0 qg1 qw0 qw1
    have hb_12 := hid hb
    have Ka_12 := hid (Ka_11.out.step hb_12.out)
    have Kw_12 := hid (Kw_11.out.step hb_12.out)
    have Kx_12 := hid (Kx_11.out.step hb_12.out)
    have Kg_12 := hid (Kg_11.out.step hb_12.out)
    have Nw_12 := hid (Nw_11.out.step hb_12.out)
    have Nx_12 := hid (Nx_11.out.step hb_12.out)
    have Ng_12 := hid (Ng_11.out.step hb_12.out)
    have B_12 := hid (B_11.out.trans (hb_12.out.mono (by omega)))
    have z_12 : u11.heap.size ≤ u12.heap.size := hb_12.out.size
    clear Ka_11 Kw_11 Kx_11 Kg_11 Nw_11 Nx_11 Ng_11 B_11
    clear hb_12
    clear hb
    clear Nx_12
    clear Kx_12
    obtain ⟨qg0, qg1, -, -⟩ := Kg_12.out.two
    go_wp2_with fail
    refine (markView_any on 1 _ Ng_12.out (by omega) (by omega) (by omega)).mono ?_
    rintro e u13 ⟨rfl, hL, hK⟩
    clear qg0 qg1
    have hk_13 := hid hK
    have z_13 : u12.heap.size ≤ u13.heap.size := hk_13.out.size
    have Ka_13 := hid (Ka_12.out.kp hk_13.out (fun (h : u6.heap.size ≤ w.heap.size ∧ w.heap.size < u7.heap.size) => by omega))
    have Kw_13 := hid (Kw_12.out.kp hk_13.out (fun (h : u6.heap.size ≤ u3.heap.size ∧ u3.heap.size < u7.heap.size) => by omega))
    have Kg_13 := hid (Kg_12.out.kp hk_13.out (fun (h : u6.heap.size ≤ u7.heap.size ∧ u7.heap.size < u7.heap.size) => by omega))
    have Nw_13 := hid (Nw_12.out.kp hk_13.out (fun b h1 h2 (h3 : u6.heap.size ≤ b ∧ b < u7.heap.size) => by omega))
    have B_13 := hid (B_12.out.trans (hk_13.out.base (by omega) (fun b (h : u6.heap.size ≤ b ∧ b < u7.heap.size) => by omega)))
    clear Ka_12 Kw_12 Kg_12 Nw_12 Ng_12 B_12
    clear hk_13
    have Ng_13 := hid hL
    clear hL hK
    have gm : ¬ (1 + (oz.length : Int) < 0) := by omega
    have gmm : ((1 + (oz.length : Int)) != (1 + (oz.length : Int))) = false := by simp
    obtain ⟨qg0, qg1, -, -⟩ := Kg_13.out.two
    go_wp2_with fail
    refine (heldView_any on 1 _ Ng_13.out.at_ (by omega) (by omega) (by omega)).mono ?_
    rintro e u14 ⟨rfl, hb⟩
    clear qg0 qg1
    have hb_14 := hid hb
    have Ka_14 := hid (Ka_13.out.step hb_14.out)
    have Kw_14 := hid (Kw_13.out.step hb_14.out)
    have Kg_14 := hid (Kg_13.out.step hb_14.out)
    have Nw_14 := hid (Nw_13.out.step hb_14.out)
    have Ng_14 := hid (Ng_13.out.step hb_14.out)
    have B_14 := hid (B_13.out.trans (hb_14.out.mono (by omega)))
    have z_14 : u13.heap.size ≤ u14.heap.size := hb_14.out.size
    clear Ka_13 Kw_13 Kg_13 Nw_13 Ng_13 B_13
    clear hb_14
    clear hb
    obtain ⟨qa0, qa1, -, -⟩ := Ka_14.out.two
    go_wp2_with fail
    refine (toView_any n _ ((Reads.below hx.out B_14.out).more B_14.out.size) (by omega)).mono ?_
    rintro e u15 ⟨Ay, cy, rfl, oy, hb⟩
    clear qa0 qa1
    have hb_15 := hid hb
    have Ka_15 := hid (Ka_14.out.step hb_15.out)
    have Kw_15 := hid (Kw_14.out.step hb_15.out)
    have Kg_15 := hid (Kg_14.out.step hb_15.out)
    have Nw_15 := hid (Nw_14.out.step hb_15.out)
    have Ng_15 := hid (Ng_14.out.step hb_15.out)
    have B_15 := hid (B_14.out.trans (hb_15.out.mono (by omega)))
    have z_15 : u14.heap.size ≤ u15.heap.size := hb_15.out.size
    clear Ka_14 Kw_14 Kg_14 Nw_14 Ng_14 B_14
    clear hb_15
    clear hb
    have Ny_15 := hid (Lv.ofI oy)
    clear oy
    go_wp2_with fail
    refine (((ViewJoin_impl n x _ Ny_15.out.at_ Ny_15.out.cap (by omega) (Sn.below sA.out B_15.out) (Sn.below sB.out B_15.out)).mono fun _ _ h => VPost.x hR.out h)).mono ?_
    rintro e u16 ⟨Ah, ch, rfl, oh, hb⟩
    have hb_16 := hid hb
    have Ka_16 := hid (Ka_15.out.step hb_16.out)
    have Kw_16 := hid (Kw_15.out.step hb_16.out)
    have Kg_16 := hid (Kg_15.out.step hb_16.out)
    have Nw_16 := hid (Nw_15.out.step hb_16.out)
    have Ng_16 := hid (Ng_15.out.step hb_16.out)
    have Ny_16 := hid (Ny_15.out.step hb_16.out)
    have B_16 := hid (B_15.out.trans (hb_16.out.mono (by omega)))
    have z_16 : u15.heap.size ≤ u16.heap.size := hb_16.out.size
    clear Ka_15 Kw_15 Kg_15 Nw_15 Ng_15 Ny_15 B_15
    clear hb_16
    clear hb
    have Nh_16 := hid (Lv.ofI oh)
    clear oh
    clear Ny_16
    go_upto_region 25 with (fail)
    obtain ⟨u17, hu⟩ : ∃ W, (u16.alloc (.cells #[.int .i64 on, .slice Ah oz.length ch] 26)) = W := ⟨_, rfl⟩
    rw [hu]
    have hb : Below u16.heap.size u16 u17 := by rw [← hu]; exact below1 _ _
    have hch : Cs u17 (u16.heap.size) 26 #[.int .i64 on, .slice Ah oz.length ch] := by rw [← hu]; exact Cs.new _ _ _
    clear hu
    have hb_17 := hid hb
    have Ka_17 := hid (Ka_16.out.step hb_17.out)
    have Kw_17 := hid (Kw_16.out.step hb_17.out)
    have Kg_17 := hid (Kg_16.out.step hb_17.out)
    have Nw_17 := hid (Nw_16.out.step hb_17.out)
    have Ng_17 := hid (Ng_16.out.step hb_17.out)
    have Nh_17 := hid (Nh_16.out.step hb_17.out)
    have B_17 := hid (B_16.out.trans (hb_17.out.mono (by omega)))
    have z_17 : u16.heap.size ≤ u17.heap.size := hb_17.out.size
    clear Ka_16 Kw_16 Kg_16 Nw_16 Ng_16 Nh_16 B_16
    clear hb_17
    clear hb
    have Kh_17 := hid hch
    have yh_17 : u16.heap.size < u17.heap.size := hch.lt
    clear hch
    obtain ⟨qh0, qh1, -, -⟩ := Kh_17.out.two
    obtain ⟨qw0, qw1, -, -⟩ := Kw_17.out.two
    go_wp2_with fail
    refine (eqView_same on _ Nh_17.out.at_ Nw_17.out.at_ (by omega)).mono ?_
    rintro e u18 ⟨rfl, hb⟩
    clear qh0 qh1 qw0 qw1
    have hb_18 := hid hb
    have Ka_18 := hid (Ka_17.out.step hb_18.out)
    have Kw_18 := hid (Kw_17.out.step hb_18.out)
    have Kg_18 := hid (Kg_17.out.step hb_18.out)
    have Kh_18 := hid (Kh_17.out.step hb_18.out)
    have Nw_18 := hid (Nw_17.out.step hb_18.out)
    have Ng_18 := hid (Ng_17.out.step hb_18.out)
    have Nh_18 := hid (Nh_17.out.step hb_18.out)
    have B_18 := hid (B_17.out.trans (hb_18.out.mono (by omega)))
    have z_18 : u17.heap.size ≤ u18.heap.size := hb_18.out.size
    clear Ka_17 Kw_17 Kg_17 Kh_17 Nw_17 Ng_17 Nh_17 B_17
    clear hb_18
    clear hb
    obtain ⟨qg0, qg1, -, -⟩ := Kg_18.out.two
    go_wp2_with fail
    refine (heldView_any on 1 _ Ng_18.out.at_ (by omega) (by omega) (by omega)).mono ?_
    rintro e u19 ⟨rfl, hb⟩
    clear qg0 qg1
    have hb_19 := hid hb
    have Ka_19 := hid (Ka_18.out.step hb_19.out)
    have Kw_19 := hid (Kw_18.out.step hb_19.out)
    have Kg_19 := hid (Kg_18.out.step hb_19.out)
    have Kh_19 := hid (Kh_18.out.step hb_19.out)
    have Nw_19 := hid (Nw_18.out.step hb_19.out)
    have Ng_19 := hid (Ng_18.out.step hb_19.out)
    have Nh_19 := hid (Nh_18.out.step hb_19.out)
    have B_19 := hid (B_18.out.trans (hb_19.out.mono (by omega)))
    have z_19 : u18.heap.size ≤ u19.heap.size := hb_19.out.size
    clear Ka_18 Kw_18 Kg_18 Kh_18 Nw_18 Ng_18 Nh_18 B_18
    clear hb_19
    clear hb
    go_wp2
    go_ret
    exact ⟨rfl, B_19.out⟩
  · obtain ⟨qa0, qa1, -, -⟩ := Ka_0.out.two
    go_enter Tryd.func3, Tryd.ntmps3
    go_upto_region 2 with (fail)
    rw [hu0.out]
    go_wp2_with fail
    refine (szView_n n _ (by omega) (by omega) (by omega) (by omega)).mono ?_
    rintro e w1 ⟨rfl, hb⟩
    have hB := hid (B_0.out.trans (hb.mono (by omega)))
    clear hb
    go_wp2
    go_ret
    exact ⟨rfl, hB.out⟩

theorem leaveR_len {n x : Int} {zs : List Int} {on : Int} {oz : List Int} {ok : Bool} (h : leaveR n zs x = ((on, oz), ok)) : oz.length ≤ 8 := by
  unfold leaveR at h
  split at h
  · exact vwR_len h
  · injection h with h _
    injection h with _ h
    rw [← h]; simp

set_option maxRecDepth 100000 in
set_option maxHeartbeats 16000000 in
theorem exViewLeave {l c : Nat} {A : Option Addr} {zs : List Int} {a1 a2 : Addr} (n x : Int) (w : World) (hr : RdI w w.heap.size A l zs) (hn : l ≤ maxLen) (sB : Sn w 1 a2) (sA : Sn w 2 a1) :
    Calls Tryd.prog 4 #[vwV n (.slice A l c), .int .i64 x] w fun e w' => e = .returned (.bool true) ∧ Below w.heap.size w w' := by
  unfold maxLen at hn
  obtain rfl := hr.len
  have hx := hid hr
  have sB := hid sB
  have sA := hid sA
  clear hr
  obtain ⟨u0, hu0⟩ : ∃ W, w.alloc (.cells #[.int .i64 n, .slice A zs.length c] 24) = W := ⟨_, rfl⟩
  have B_0 := hid (show Below w.heap.size w u0 by rw [← hu0]; exact below1 _ _)
  have Ka_0 := hid (show Cs u0 w.heap.size 24 #[.int .i64 n, .slice A zs.length c] by rw [← hu0]; exact Cs.new _ _ _)
  have ya_0 : w.heap.size < u0.heap.size := Ka_0.out.lt
  replace hu0 := hid hu0
  by_cases hbig : (zs.length : Int) ≤ 1048576
  · have gz : ¬ (1048576 - (zs.length : Int) < 0) := by omega
    have hl20 : zs.length ≤ 1048576 := by omega
    obtain ⟨on, oz, ok, hR⟩ : ∃ on oz ok, leaveR n zs x = ((on, oz), ok) := ⟨_, _, _, rfl⟩
    have hol := leaveR_len hR
    replace hR := hid hR
    go_enter Tryd.func4, Tryd.ntmps4
    go_upto_region 2 with (fail)
    rw [hu0.out]
    obtain ⟨qa0, qa1, -, -⟩ := Ka_0.out.two
    go_wp2_with fail
    refine (szView_y n _ hbig (by omega) (by omega)).mono ?_
    rintro e u1 ⟨rfl, hb⟩
    clear qa0 qa1
    have hb_1 := hid hb
    have Ka_1 := hid (Ka_0.out.step hb_1.out)
    have B_1 := hid (B_0.out.trans (hb_1.out.mono (by omega)))
    have z_1 : u0.heap.size ≤ u1.heap.size := hb_1.out.size
    clear Ka_0 B_0
    clear hb_1
    clear hb
    obtain ⟨qa0, qa1, -, -⟩ := Ka_1.out.two
    go_wp2_with fail
    refine (toView_any n _ ((Reads.below hx.out B_1.out).more B_1.out.size) (by omega)).mono ?_
    rintro e u2 ⟨Ap, cp, rfl, op, hb⟩
    clear qa0 qa1
    have hb_2 := hid hb
    have Ka_2 := hid (Ka_1.out.step hb_2.out)
    have B_2 := hid (B_1.out.trans (hb_2.out.mono (by omega)))
    have z_2 : u1.heap.size ≤ u2.heap.size := hb_2.out.size
    clear Ka_1 B_1
    clear hb_2
    clear hb
    have Np_2 := hid (Lv.ofI op)
    clear op
    have hbb : (ok != ok) = false := by cases ok <;> rfl
    go_wp2_with fail
    refine (((ViewLeave_spec n x _ Np_2.out.at_ (by omega)).mono fun _ _ h => VPost.x hR.out h)).mono ?_
    rintro e u3 ⟨Aw, cw, rfl, ow, hb⟩
    have hb_3 := hid hb
    have Ka_3 := hid (Ka_2.out.step hb_3.out)
    have Np_3 := hid (Np_2.out.step hb_3.out)
    have B_3 := hid (B_2.out.trans (hb_3.out.mono (by omega)))
    have z_3 : u2.heap.size ≤ u3.heap.size := hb_3.out.size
    clear Ka_2 Np_2 B_2
    clear hb_3
    clear hb
    have Nw_3 := hid (Lv.ofI ow)
    clear ow
    clear Np_3
    go_upto_region 6 with (fail)
    obtain ⟨u4, hu⟩ : ∃ W, (u3.alloc (.cells #[.int .i64 on, .slice Aw oz.length cw] 26)) = W := ⟨_, rfl⟩
    rw [hu]
    have hb : Below u3.heap.size u3 u4 := by rw [← hu]; exact below1 _ _
    have hcw : Cs u4 (u3.heap.size) 26 #[.int .i64 on, .slice Aw oz.length cw] := by rw [← hu]; exact Cs.new _ _ _
    clear hu
    have hb_4 := hid hb
    have Ka_4 := hid (Ka_3.out.step hb_4.out)
    have Nw_4 := hid (Nw_3.out.step hb_4.out)
    have B_4 := hid (B_3.out.trans (hb_4.out.mono (by omega)))
    have z_4 : u3.heap.size ≤ u4.heap.size := hb_4.out.size
    clear Ka_3 Nw_3 B_3
    clear hb_4
    clear hb
    have Kw_4 := hid hcw
    have yw_4 : u3.heap.size < u4.heap.size := hcw.lt
    clear hcw
    obtain ⟨qa0, qa1, -, -⟩ := Ka_4.out.two
    go_wp2_with fail
    refine (toView_any n _ ((Reads.below hx.out B_4.out).more B_4.out.size) (by omega)).mono ?_
    rintro e u5 ⟨Ax, cx, rfl, ox, hb⟩
    clear qa0 qa1
    have hb_5 := hid hb
    have Ka_5 := hid (Ka_4.out.step hb_5.out)
    have Kw_5 := hid (Kw_4.out.step hb_5.out)
    have Nw_5 := hid (Nw_4.out.step hb_5.out)
    have B_5 := hid (B_4.out.trans (hb_5.out.mono (by omega)))
    have z_5 : u4.heap.size ≤ u5.heap.size := hb_5.out.size
    clear Ka_4 Kw_4 Nw_4 B_4
    clear hb_5
    clear hb
    have Nx_5 := hid (Lv.ofI ox)
    clear ox
    go_upto_region 7 with (fail)
    obtain ⟨u6, hu⟩ : ∃ W, (u5.alloc (.cells #[.int .i64 n, .slice Ax zs.length cx] 26)) = W := ⟨_, rfl⟩
    rw [hu]
    have hb : Below u5.heap.size u5 u6 := by rw [← hu]; exact below1 _ _
    have hcx : Cs u6 (u5.heap.size) 26 #[.int .i64 n, .slice Ax zs.length cx] := by rw [← hu]; exact Cs.new _ _ _
    clear hu
    have hb_6 := hid hb
    have Ka_6 := hid (Ka_5.out.step hb_6.out)
    have Kw_6 := hid (Kw_5.out.step hb_6.out)
    have Nw_6 := hid (Nw_5.out.step hb_6.out)
    have Nx_6 := hid (Nx_5.out.step hb_6.out)
    have B_6 := hid (B_5.out.trans (hb_6.out.mono (by omega)))
    have z_6 : u5.heap.size ≤ u6.heap.size := hb_6.out.size
    clear Ka_5 Kw_5 Nw_5 Nx_5 B_5
    clear hb_6
    clear hb
    have Kx_6 := hid hcx
    have yx_6 : u5.heap.size < u6.heap.size := hcx.lt
    clear hcx
    obtain ⟨qx0, qx1, -, -⟩ := Kx_6.out.two
    go_wp2_with fail
    refine (((ViewLeave_impl n x _ Nx_6.out.at_ Nx_6.out.cap (by omega) (Sn.below sA.out B_6.out) (Sn.below sB.out B_6.out)).mono fun _ _ h => VPost.x hR.out h)).mono ?_
    rintro e u7 ⟨Ag, cg, rfl, og, hb⟩
    clear qx0 qx1
    have hb_7 := hid hb
    have Ka_7 := hid (Ka_6.out.step hb_7.out)
    have Kw_7 := hid (Kw_6.out.step hb_7.out)
    have Kx_7 := hid (Kx_6.out.step hb_7.out)
    have Nw_7 := hid (Nw_6.out.step hb_7.out)
    have Nx_7 := hid (Nx_6.out.step hb_7.out)
    have B_7 := hid (B_6.out.trans (hb_7.out.mono (by omega)))
    have z_7 : u6.heap.size ≤ u7.heap.size := hb_7.out.size
    clear Ka_6 Kw_6 Kx_6 Nw_6 Nx_6 B_6
    clear hb_7
    clear hb
    have Ng_7 := hid (Lv.ofI og)
    clear og
    go_upto_region 8 with (fail)
    obtain ⟨u8, hu⟩ : ∃ W, (u7.alloc (.cells #[.int .i64 on, .slice Ag oz.length cg] 26)) = W := ⟨_, rfl⟩
    rw [hu]
    have hb : Below u7.heap.size u7 u8 := by rw [← hu]; exact below1 _ _
    have hcg : Cs u8 (u7.heap.size) 26 #[.int .i64 on, .slice Ag oz.length cg] := by rw [← hu]; exact Cs.new _ _ _
    clear hu
    have hb_8 := hid hb
    have Ka_8 := hid (Ka_7.out.step hb_8.out)
    have Kw_8 := hid (Kw_7.out.step hb_8.out)
    have Kx_8 := hid (Kx_7.out.step hb_8.out)
    have Nw_8 := hid (Nw_7.out.step hb_8.out)
    have Nx_8 := hid (Nx_7.out.step hb_8.out)
    have Ng_8 := hid (Ng_7.out.step hb_8.out)
    have B_8 := hid (B_7.out.trans (hb_8.out.mono (by omega)))
    have z_8 : u7.heap.size ≤ u8.heap.size := hb_8.out.size
    clear Ka_7 Kw_7 Kx_7 Nw_7 Nx_7 Ng_7 B_7
    clear hb_8
    clear hb
    have Kg_8 := hid hcg
    have yg_8 : u7.heap.size < u8.heap.size := hcg.lt
    clear hcg
    obtain ⟨qg0, qg1, -, -⟩ := Kg_8.out.two
    obtain ⟨qw0, qw1, -, -⟩ := Kw_8.out.two
    go_wp2_with fail
    refine (eqView_same on _ Ng_8.out.at_ Nw_8.out.at_ (by omega)).mono ?_
    rintro e u9 ⟨rfl, hb⟩
    clear qg0 qg1 qw0 qw1
    have hb_9 := hid hb
    have Ka_9 := hid (Ka_8.out.step hb_9.out)
    have Kw_9 := hid (Kw_8.out.step hb_9.out)
    have Kx_9 := hid (Kx_8.out.step hb_9.out)
    have Kg_9 := hid (Kg_8.out.step hb_9.out)
    have Nw_9 := hid (Nw_8.out.step hb_9.out)
    have Nx_9 := hid (Nx_8.out.step hb_9.out)
    have Ng_9 := hid (Ng_8.out.step hb_9.out)
    have B_9 := hid (B_8.out.trans (hb_9.out.mono (by omega)))
    have z_9 : u8.heap.size ≤ u9.heap.size := hb_9.out.size
    clear Ka_8 Kw_8 Kx_8 Kg_8 Nw_8 Nx_8 Ng_8 B_8
    clear hb_9
    clear hb
    have hd := hid (Below.refl u9.heap.size u9).drew
    have Ka_d := hid (Ka_9.out.step hd.out)
    have Kw_d := hid (Kw_9.out.step hd.out)
    have Kx_d := hid (Kx_9.out.step hd.out)
    have Kg_d := hid (Kg_9.out.step hd.out)
    have Nw_d := hid (Nw_9.out.step hd.out)
    have Nx_d := hid (Nx_9.out.step hd.out)
    have Ng_d := hid (Ng_9.out.step hd.out)
    have B_d := hid (B_9.out.trans (hd.out.mono (by omega)))
    have z_d : u9.heap.size ≤ u9.drew.heap.size := hd.out.size
    have qe0 := And.intro (And.intro Kx_d.out.two.1 Kx_d.out.two.2.1) (And.intro Ka_d.out.two.1 Ka_d.out.two.2.1)
    have qf0 := And.intro (And.intro Kx_9.out.two.1 Kx_9.out.two.2.1) (And.intro Ka_9.out.two.1 Ka_9.out.two.2.1)
    go_wp2_with fail
    go_region_held3 (fun w' => (w'.cell? ⟨u5.heap.size, 0, none⟩ = some (.int .i64 n) ∧ w'.cell? ⟨u5.heap.size, 1, none⟩ = some (.slice Ax zs.length cx)) ∧ w'.cell? ⟨w.heap.size, 0, none⟩ = some (.int .i64 n) ∧ w'.cell? ⟨w.heap.size, 1, none⟩ = some (.slice A zs.length c))
      (first | with_reducible exact qe0 | with_reducible exact qe1 | with_reducible exact qe2 | with_reducible exact qf0 | go_keep)
      (first | (go_at_call 10; (refine (toView_any n _ ((Reads.below hx.out B_d.out).more B_d.out.size) (by omega)).mono ?_); rintro e ud ⟨Ad, cd, rfl, od, hb⟩; have Ka_e := hid (Ka_d.out.step hb); have Kw_e := hid (Kw_d.out.step hb); have Kx_e := hid (Kx_d.out.step hb); have Kg_e := hid (Kg_d.out.step hb); have Nw_e := hid (Nw_d.out.step hb); have Nx_e := hid (Nx_d.out.step hb); have Ng_e := hid (Ng_d.out.step hb); have B_e := hid (B_d.out.trans (hb.mono (by omega))); have z_e := hb.size; have Nd_e := hid (Lv.ofI od); have qe1 := And.intro (And.intro Kx_e.out.two.1 Kx_e.out.two.2.1) (And.intro Ka_e.out.two.1 Ka_e.out.two.2.1); clear hb od) | (go_at_call 12; (refine (eqView_same n _ Nx_e.out.at_ Nd_e.out.at_ (by omega)).mono ?_); rintro e u10 ⟨rfl, hb⟩; have Ka_10 := hid (Ka_e.out.step hb); have Kw_10 := hid (Kw_e.out.step hb); have Kx_10 := hid (Kx_e.out.step hb); have Kg_10 := hid (Kg_e.out.step hb); have Nw_10 := hid (Nw_e.out.step hb); have Nx_10 := hid (Nx_e.out.step hb); have Ng_10 := hid (Ng_e.out.step hb); have B_10 := hid (B_e.out.trans (hb.mono (by omega))); have z_10 : u9.heap.size ≤ u10.heap.size := Nat.le_trans z_d (Nat.le_trans z_e hb.size); have qe2 := And.intro (And.intro Kx_10.out.two.1 Kx_10.out.two.2.1) (And.intro Ka_10.out.two.1 Ka_10.out.two.2.1); clear hb))
    clear qe0 qf0 qe1 qe2 hd B_d B_e Nd_e z_d z_e
    clear Ka_d Kw_d Kx_d Kg_d Nw_d Nx_d Ng_d
    clear Ka_e Kw_e Kx_e Kg_e Nw_e Nx_e Ng_e
    clear Ka_9 Kw_9 Kx_9 Kg_9 Nw_9 Nx_9 Ng_9 B_9
    obtain ⟨qx0, qx1, -, -⟩ := Kx_10.out.two
    go_wp2_with fail
    refine (markView_any n 1 _ Nx_10.out (by omega) (by omega) (by omega)).mono ?_
    rintro e u11 ⟨rfl, hL, hK⟩
    clear qx0 qx1
    have hk_11 := hid hK
    have z_11 : u10.heap.size ≤ u11.heap.size := hk_11.out.size
    have Ka_11 := hid (Ka_10.out.kp hk_11.out (fun (h : u4.heap.size ≤ w.heap.size ∧ w.heap.size < u5.heap.size) => by omega))
    have Kw_11 := hid (Kw_10.out.kp hk_11.out (fun (h : u4.heap.size ≤ u3.heap.size ∧ u3.heap.size < u5.heap.size) => by omega))
    have Kx_11 := hid (Kx_10.out.kp hk_11.out (fun (h : u4.heap.size ≤ u5.heap.size ∧ u5.heap.size < u5.heap.size) => by omega))
    have Kg_11 := hid (Kg_10.out.kp hk_11.out (fun (h : u4.heap.size ≤ u7.heap.size ∧ u7.heap.size < u5.heap.size) => by omega))
    have Nw_11 := hid (Nw_10.out.kp hk_11.out (fun b h1 h2 (h3 : u4.heap.size ≤ b ∧ b < u5.heap.size) => by omega))
    have Ng_11 := hid (Ng_10.out.kp hk_11.out (fun b h1 h2 (h3 : u4.heap.size ≤ b ∧ b < u5.heap.size) => by omega))
    have B_11 := hid (B_10.out.trans (hk_11.out.base (by omega) (fun b (h : u4.heap.size ≤ b ∧ b < u5.heap.size) => by omega)))
    clear Ka_10 Kw_10 Kx_10 Kg_10 Nw_10 Nx_10 Ng_10 B_10
    clear hk_11
    have Nx_11 := hid hL
    clear hL hK
    have gk : ¬ (1 + (zs.length : Int) < 0) := by omega
    obtain ⟨qg0, qg1, -, -⟩ := Kg_11.out.two
    obtain ⟨qw0, qw1, -, -⟩ := Kw_11.out.two
    go_wp2_with fail
    refine (eqView_same on _ Ng_11.out.at_ Nw_11.out.at_ (by omega)).mono ?_
    rintro e u12 ⟨rfl, hb⟩
    clear qg0 qg1 qw0 qw1
    have hb_12 := hid hb
    have Ka_12 := hid (Ka_11.out.step hb_12.out)
    have Kw_12 := hid (Kw_11.out.step hb_12.out)
    have Kx_12 := hid (Kx_11.out.step hb_12.out)
    have Kg_12 := hid (Kg_11.out.step hb_12.out)
    have Nw_12 := hid (Nw_11.out.step hb_12.out)
    have Nx_12 := hid (Nx_11.out.step hb_12.out)
    have Ng_12 := hid (Ng_11.out.step hb_12.out)
    have B_12 := hid (B_11.out.trans (hb_12.out.mono (by omega)))
    have z_12 : u11.heap.size ≤ u12.heap.size := hb_12.out.size
    clear Ka_11 Kw_11 Kx_11 Kg_11 Nw_11 Nx_11 Ng_11 B_11
    clear hb_12
    clear hb
    clear Nx_12
    clear Kx_12
    obtain ⟨qg0, qg1, -, -⟩ := Kg_12.out.two
    go_wp2_with fail
    refine (markView_any on 1 _ Ng_12.out (by omega) (by omega) (by omega)).mono ?_
    rintro e u13 ⟨rfl, hL, hK⟩
    clear qg0 qg1
    have hk_13 := hid hK
    have z_13 : u12.heap.size ≤ u13.heap.size := hk_13.out.size
    have Ka_13 := hid (Ka_12.out.kp hk_13.out (fun (h : u6.heap.size ≤ w.heap.size ∧ w.heap.size < u7.heap.size) => by omega))
    have Kw_13 := hid (Kw_12.out.kp hk_13.out (fun (h : u6.heap.size ≤ u3.heap.size ∧ u3.heap.size < u7.heap.size) => by omega))
    have Kg_13 := hid (Kg_12.out.kp hk_13.out (fun (h : u6.heap.size ≤ u7.heap.size ∧ u7.heap.size < u7.heap.size) => by omega))
    have Nw_13 := hid (Nw_12.out.kp hk_13.out (fun b h1 h2 (h3 : u6.heap.size ≤ b ∧ b < u7.heap.size) => by omega))
    have B_13 := hid (B_12.out.trans (hk_13.out.base (by omega) (fun b (h : u6.heap.size ≤ b ∧ b < u7.heap.size) => by omega)))
    clear Ka_12 Kw_12 Kg_12 Nw_12 Ng_12 B_12
    clear hk_13
    have Ng_13 := hid hL
    clear hL hK
    have gm : ¬ (1 + (oz.length : Int) < 0) := by omega
    have gmm : ((1 + (oz.length : Int)) != (1 + (oz.length : Int))) = false := by simp
    obtain ⟨qg0, qg1, -, -⟩ := Kg_13.out.two
    go_wp2_with fail
    refine (heldView_any on 1 _ Ng_13.out.at_ (by omega) (by omega) (by omega)).mono ?_
    rintro e u14 ⟨rfl, hb⟩
    clear qg0 qg1
    have hb_14 := hid hb
    have Ka_14 := hid (Ka_13.out.step hb_14.out)
    have Kw_14 := hid (Kw_13.out.step hb_14.out)
    have Kg_14 := hid (Kg_13.out.step hb_14.out)
    have Nw_14 := hid (Nw_13.out.step hb_14.out)
    have Ng_14 := hid (Ng_13.out.step hb_14.out)
    have B_14 := hid (B_13.out.trans (hb_14.out.mono (by omega)))
    have z_14 : u13.heap.size ≤ u14.heap.size := hb_14.out.size
    clear Ka_13 Kw_13 Kg_13 Nw_13 Ng_13 B_13
    clear hb_14
    clear hb
    obtain ⟨qa0, qa1, -, -⟩ := Ka_14.out.two
    go_wp2_with fail
    refine (toView_any n _ ((Reads.below hx.out B_14.out).more B_14.out.size) (by omega)).mono ?_
    rintro e u15 ⟨Ay, cy, rfl, oy, hb⟩
    clear qa0 qa1
    have hb_15 := hid hb
    have Ka_15 := hid (Ka_14.out.step hb_15.out)
    have Kw_15 := hid (Kw_14.out.step hb_15.out)
    have Kg_15 := hid (Kg_14.out.step hb_15.out)
    have Nw_15 := hid (Nw_14.out.step hb_15.out)
    have Ng_15 := hid (Ng_14.out.step hb_15.out)
    have B_15 := hid (B_14.out.trans (hb_15.out.mono (by omega)))
    have z_15 : u14.heap.size ≤ u15.heap.size := hb_15.out.size
    clear Ka_14 Kw_14 Kg_14 Nw_14 Ng_14 B_14
    clear hb_15
    clear hb
    have Ny_15 := hid (Lv.ofI oy)
    clear oy
    go_wp2_with fail
    refine (((ViewLeave_impl n x _ Ny_15.out.at_ Ny_15.out.cap (by omega) (Sn.below sA.out B_15.out) (Sn.below sB.out B_15.out)).mono fun _ _ h => VPost.x hR.out h)).mono ?_
    rintro e u16 ⟨Ah, ch, rfl, oh, hb⟩
    have hb_16 := hid hb
    have Ka_16 := hid (Ka_15.out.step hb_16.out)
    have Kw_16 := hid (Kw_15.out.step hb_16.out)
    have Kg_16 := hid (Kg_15.out.step hb_16.out)
    have Nw_16 := hid (Nw_15.out.step hb_16.out)
    have Ng_16 := hid (Ng_15.out.step hb_16.out)
    have Ny_16 := hid (Ny_15.out.step hb_16.out)
    have B_16 := hid (B_15.out.trans (hb_16.out.mono (by omega)))
    have z_16 : u15.heap.size ≤ u16.heap.size := hb_16.out.size
    clear Ka_15 Kw_15 Kg_15 Nw_15 Ng_15 Ny_15 B_15
    clear hb_16
    clear hb
    have Nh_16 := hid (Lv.ofI oh)
    clear oh
    clear Ny_16
    go_upto_region 25 with (fail)
    obtain ⟨u17, hu⟩ : ∃ W, (u16.alloc (.cells #[.int .i64 on, .slice Ah oz.length ch] 26)) = W := ⟨_, rfl⟩
    rw [hu]
    have hb : Below u16.heap.size u16 u17 := by rw [← hu]; exact below1 _ _
    have hch : Cs u17 (u16.heap.size) 26 #[.int .i64 on, .slice Ah oz.length ch] := by rw [← hu]; exact Cs.new _ _ _
    clear hu
    have hb_17 := hid hb
    have Ka_17 := hid (Ka_16.out.step hb_17.out)
    have Kw_17 := hid (Kw_16.out.step hb_17.out)
    have Kg_17 := hid (Kg_16.out.step hb_17.out)
    have Nw_17 := hid (Nw_16.out.step hb_17.out)
    have Ng_17 := hid (Ng_16.out.step hb_17.out)
    have Nh_17 := hid (Nh_16.out.step hb_17.out)
    have B_17 := hid (B_16.out.trans (hb_17.out.mono (by omega)))
    have z_17 : u16.heap.size ≤ u17.heap.size := hb_17.out.size
    clear Ka_16 Kw_16 Kg_16 Nw_16 Ng_16 Nh_16 B_16
    clear hb_17
    clear hb
    have Kh_17 := hid hch
    have yh_17 : u16.heap.size < u17.heap.size := hch.lt
    clear hch
    obtain ⟨qh0, qh1, -, -⟩ := Kh_17.out.two
    obtain ⟨qw0, qw1, -, -⟩ := Kw_17.out.two
    go_wp2_with fail
    refine (eqView_same on _ Nh_17.out.at_ Nw_17.out.at_ (by omega)).mono ?_
    rintro e u18 ⟨rfl, hb⟩
    clear qh0 qh1 qw0 qw1
    have hb_18 := hid hb
    have Ka_18 := hid (Ka_17.out.step hb_18.out)
    have Kw_18 := hid (Kw_17.out.step hb_18.out)
    have Kg_18 := hid (Kg_17.out.step hb_18.out)
    have Kh_18 := hid (Kh_17.out.step hb_18.out)
    have Nw_18 := hid (Nw_17.out.step hb_18.out)
    have Ng_18 := hid (Ng_17.out.step hb_18.out)
    have Nh_18 := hid (Nh_17.out.step hb_18.out)
    have B_18 := hid (B_17.out.trans (hb_18.out.mono (by omega)))
    have z_18 : u17.heap.size ≤ u18.heap.size := hb_18.out.size
    clear Ka_17 Kw_17 Kg_17 Kh_17 Nw_17 Ng_17 Nh_17 B_17
    clear hb_18
    clear hb
    obtain ⟨qg0, qg1, -, -⟩ := Kg_18.out.two
    go_wp2_with fail
    refine (heldView_any on 1 _ Ng_18.out.at_ (by omega) (by omega) (by omega)).mono ?_
    rintro e u19 ⟨rfl, hb⟩
    clear qg0 qg1
    have hb_19 := hid hb
    have Ka_19 := hid (Ka_18.out.step hb_19.out)
    have Kw_19 := hid (Kw_18.out.step hb_19.out)
    have Kg_19 := hid (Kg_18.out.step hb_19.out)
    have Kh_19 := hid (Kh_18.out.step hb_19.out)
    have Nw_19 := hid (Nw_18.out.step hb_19.out)
    have Ng_19 := hid (Ng_18.out.step hb_19.out)
    have Nh_19 := hid (Nh_18.out.step hb_19.out)
    have B_19 := hid (B_18.out.trans (hb_19.out.mono (by omega)))
    have z_19 : u18.heap.size ≤ u19.heap.size := hb_19.out.size
    clear Ka_18 Kw_18 Kg_18 Kh_18 Nw_18 Ng_18 Nh_18 B_18
    clear hb_19
    clear hb
    go_wp2
    go_ret
    exact ⟨rfl, B_19.out⟩
  · obtain ⟨qa0, qa1, -, -⟩ := Ka_0.out.two
    go_enter Tryd.func4, Tryd.ntmps4
    go_upto_region 2 with (fail)
    rw [hu0.out]
    go_wp2_with fail
    refine (szView_n n _ (by omega) (by omega) (by omega) (by omega)).mono ?_
    rintro e w1 ⟨rfl, hb⟩
    have hB := hid (B_0.out.trans (hb.mono (by omega)))
    clear hb
    go_wp2
    go_ret
    exact ⟨rfl, hB.out⟩

end Go.Proofs.YtohbbpmjoaklhaaDoor
