/-
  The walk of the law ViewJoinOrder: it returns true, and nothing that was there is written. No condition.
-/
import Derived.Test.YtppdfgifnmfioaaDoorVyA
import Derived.Deep.CutBlock
import Derived.Deep.RegionLaw
import Derived.Deep.RegionHeld3
import Derived.Deep.DeepCutAuto
namespace Go.Proofs.YtppdfgifnmfioaaDoor
open Go.RowKit
set_option linter.unusedVariables false
set_option linter.unusedSimpArgs false

set_option maxRecDepth 100000 in
set_option maxHeartbeats 16000000 in
theorem lawViewJoinOrder {a : Option Addr} {len cap : Nat} {bs : List Int} {a2 : Option Addr} {len2 cap2 : Nat} {ys : List Int} (w : World) (h : RowIs .u8 w a len cap bs) (g : RowIs .u8 w a2 len2 cap2 ys) {e0 : Addr} (sB : Sn w 1 e0) {e1 : Addr} (sA : Sn w 0 e1) :
    Calls Tryd.prog 11 #[.slice a len cap, .slice a2 len2 cap2] w fun e w' => e = .returned (.bool true) ∧ Below w.heap.size w w' := by
  obtain ⟨u0, rfl⟩ : ∃ u, u = w := ⟨w, rfl⟩
  have hl := h.len_leY
  have B_0 := hid (Below.refl u0.heap.size u0)
  have h' := hid h
  have sB := hid sB
  have sA := hid sA
  clear h
  by_cases hbig : 1048576 < len
  · go_enter Tryd.func11, Tryd.ntmps11
    go_wp2
    go_ret
    exact ⟨rfl, B_0.out⟩
  · have gl := g.len_leY
    have g' := hid g
    clear g
    by_cases hbig2 : 1048576 < len2
    · go_enter Tryd.func11, Tryd.ntmps11
      go_wp2
      go_ret
      exact ⟨rfl, B_0.out⟩
    · go_enter Tryd.func11, Tryd.ntmps11
      go_wp2_with fail
      refine (DrawViewJoin_any _ h'.out).mono ?_
      rintro e u1 ⟨n, A, c, zs, x, rfl, o1, hl9, hx0, hx1, hb⟩
      have hb_1 := hid hb
      have B_1 := hid (B_0.out.trans (hb_1.out.mono (by omega)))
      have z_1 : u0.heap.size ≤ u1.heap.size := hb_1.out.size
      clear  B_0
      clear hb_1
      clear hb
      have Nv_1 := hid (Lv.ofI o1)
      clear o1
      go_upto_region 4 with (fail)
      obtain ⟨u2, hu⟩ : ∃ W, (u1.alloc (.cells #[.int .i64 n, .slice A zs.length c] 25)) = W := ⟨_, rfl⟩
      rw [hu]
      have hb : Below u1.heap.size u1 u2 := by rw [← hu]; exact below1 _ _
      have hcv : Cs u2 (u1.heap.size) 25 #[.int .i64 n, .slice A zs.length c] := by rw [← hu]; exact Cs.new _ _ _
      clear hu
      have hb_2 := hid hb
      have Nv_2 := hid (Nv_1.out.step hb_2.out)
      have B_2 := hid (B_1.out.trans (hb_2.out.mono (by omega)))
      have z_2 : u1.heap.size ≤ u2.heap.size := hb_2.out.size
      clear Nv_1 B_1
      clear hb_2
      clear hb
      have Kv_2 := hid hcv
      have yv_2 : u1.heap.size < u2.heap.size := hcv.lt
      clear hcv
      obtain ⟨on, oz, ok, hR⟩ : ∃ on oz ok, joinR n zs x = ((on, oz), ok) := ⟨_, _, _, rfl⟩
      have hRl := joinR_lenY hR
      replace hR := hid hR
      obtain ⟨qv0, qv1, -, -⟩ := Kv_2.out.two
      go_wp2_with fail
      refine (((ViewJoin_impl n x _ Nv_2.out.at_ Nv_2.out.capY (by omega) (Sn.below sA.out B_2.out) (Sn.below sB.out B_2.out)).mono fun _ _ h => VPost.x' hR.out h)).mono ?_
      rintro e u3 ⟨Ag, cg, rfl, og, hb⟩
      clear qv0 qv1
      have hb_3 := hid hb
      have Kv_3 := hid (Kv_2.out.step hb_3.out)
      have Nv_3 := hid (Nv_2.out.step hb_3.out)
      have B_3 := hid (B_2.out.trans (hb_3.out.mono (by omega)))
      have z_3 : u2.heap.size ≤ u3.heap.size := hb_3.out.size
      clear Kv_2 Nv_2 B_2
      clear hb_3
      clear hb
      have Ng_3 := hid (Lv.ofI og)
      clear og
      go_upto_region 5 with (fail)
      obtain ⟨u4, hu⟩ : ∃ W, (u3.alloc (.cells #[.int .i64 on, .slice Ag oz.length cg] 25)) = W := ⟨_, rfl⟩
      rw [hu]
      have hb : Below u3.heap.size u3 u4 := by rw [← hu]; exact below1 _ _
      have hcg : Cs u4 (u3.heap.size) 25 #[.int .i64 on, .slice Ag oz.length cg] := by rw [← hu]; exact Cs.new _ _ _
      clear hu
      have hb_4 := hid hb
      have Kv_4 := hid (Kv_3.out.step hb_4.out)
      have Nv_4 := hid (Nv_3.out.step hb_4.out)
      have Ng_4 := hid (Ng_3.out.step hb_4.out)
      have B_4 := hid (B_3.out.trans (hb_4.out.mono (by omega)))
      have z_4 : u3.heap.size ≤ u4.heap.size := hb_4.out.size
      clear Kv_3 Nv_3 Ng_3 B_3
      clear hb_4
      clear hb
      have Kg_4 := hid hcg
      have yg_4 : u3.heap.size < u4.heap.size := hcg.lt
      clear hcg
      obtain ⟨qv0, qv1, -, -⟩ := Kv_4.out.two
      go_wp2_with fail
      refine (((ViewJoin_spec n x _ Nv_4.out.at_ Nv_4.out.capY (by omega)).mono fun _ _ h => VPost.x' hR.out h)).mono ?_
      rintro e u5 ⟨Aw, cw, rfl, ow, hb⟩
      clear qv0 qv1
      have hb_5 := hid hb
      have Kv_5 := hid (Kv_4.out.step hb_5.out)
      have Kg_5 := hid (Kg_4.out.step hb_5.out)
      have Nv_5 := hid (Nv_4.out.step hb_5.out)
      have Ng_5 := hid (Ng_4.out.step hb_5.out)
      have B_5 := hid (B_4.out.trans (hb_5.out.mono (by omega)))
      have z_5 : u4.heap.size ≤ u5.heap.size := hb_5.out.size
      clear Kv_4 Kg_4 Nv_4 Ng_4 B_4
      clear hb_5
      clear hb
      have Nw_5 := hid (Lv.ofI ow)
      clear ow
      go_upto_region 6 with (fail)
      obtain ⟨u6, hu⟩ : ∃ W, (u5.alloc (.cells #[.int .i64 on, .slice Aw oz.length cw] 25)) = W := ⟨_, rfl⟩
      rw [hu]
      have hb : Below u5.heap.size u5 u6 := by rw [← hu]; exact below1 _ _
      have hcw : Cs u6 (u5.heap.size) 25 #[.int .i64 on, .slice Aw oz.length cw] := by rw [← hu]; exact Cs.new _ _ _
      clear hu
      have hb_6 := hid hb
      have Kv_6 := hid (Kv_5.out.step hb_6.out)
      have Kg_6 := hid (Kg_5.out.step hb_6.out)
      have Nv_6 := hid (Nv_5.out.step hb_6.out)
      have Ng_6 := hid (Ng_5.out.step hb_6.out)
      have Nw_6 := hid (Nw_5.out.step hb_6.out)
      have B_6 := hid (B_5.out.trans (hb_6.out.mono (by omega)))
      have z_6 : u5.heap.size ≤ u6.heap.size := hb_6.out.size
      clear Kv_5 Kg_5 Nv_5 Ng_5 Nw_5 B_5
      clear hb_6
      clear hb
      have Kw_6 := hid hcw
      have yw_6 : u5.heap.size < u6.heap.size := hcw.lt
      clear hcw
      cases ok with
      | false =>
        obtain ⟨qg0, qg1, -, -⟩ := Kg_6.out.two
        obtain ⟨qw0, qw1, -, -⟩ := Kw_6.out.two
        go_wp2_with fail
        refine (sameView_same on _ Ng_6.out.at_ Nw_6.out.at_ (by omega)).mono ?_
        rintro e u7 ⟨rfl, hb⟩
        clear qg0 qg1 qw0 qw1
        have hb_7 := hid hb
        have Kv_7 := hid (Kv_6.out.step hb_7.out)
        have Kg_7 := hid (Kg_6.out.step hb_7.out)
        have Kw_7 := hid (Kw_6.out.step hb_7.out)
        have Nv_7 := hid (Nv_6.out.step hb_7.out)
        have Ng_7 := hid (Ng_6.out.step hb_7.out)
        have Nw_7 := hid (Nw_6.out.step hb_7.out)
        have B_7 := hid (B_6.out.trans (hb_7.out.mono (by omega)))
        have z_7 : u6.heap.size ≤ u7.heap.size := hb_7.out.size
        clear Kv_6 Kg_6 Kw_6 Nv_6 Ng_6 Nw_6 B_6
        clear hb_7
        clear hb
        obtain ⟨qg0, qg1, -, -⟩ := Kg_7.out.two
        obtain ⟨qw0, qw1, -, -⟩ := Kw_7.out.two
        go_wp2_with fail
        refine (sameView_same on _ Ng_7.out.at_ Nw_7.out.at_ (by omega)).mono ?_
        rintro e u8 ⟨rfl, hb⟩
        clear qg0 qg1 qw0 qw1
        have hb_8 := hid hb
        have Kv_8 := hid (Kv_7.out.step hb_8.out)
        have Kg_8 := hid (Kg_7.out.step hb_8.out)
        have Kw_8 := hid (Kw_7.out.step hb_8.out)
        have Nv_8 := hid (Nv_7.out.step hb_8.out)
        have Ng_8 := hid (Ng_7.out.step hb_8.out)
        have Nw_8 := hid (Nw_7.out.step hb_8.out)
        have B_8 := hid (B_7.out.trans (hb_8.out.mono (by omega)))
        have z_8 : u7.heap.size ≤ u8.heap.size := hb_8.out.size
        clear Kv_7 Kg_7 Kw_7 Nv_7 Ng_7 Nw_7 B_7
        clear hb_8
        clear hb
        go_wp2
        go_ret
        exact ⟨rfl, B_8.out⟩
      | true =>
        obtain ⟨qg0, qg1, -, -⟩ := Kg_6.out.two
        obtain ⟨qw0, qw1, -, -⟩ := Kw_6.out.two
        go_wp2_with fail
        refine (sameView_same on _ Ng_6.out.at_ Nw_6.out.at_ (by omega)).mono ?_
        rintro e u7 ⟨rfl, hb⟩
        clear qg0 qg1 qw0 qw1
        have hb_7 := hid hb
        have Kv_7 := hid (Kv_6.out.step hb_7.out)
        have Kg_7 := hid (Kg_6.out.step hb_7.out)
        have Kw_7 := hid (Kw_6.out.step hb_7.out)
        have Nv_7 := hid (Nv_6.out.step hb_7.out)
        have Ng_7 := hid (Ng_6.out.step hb_7.out)
        have Nw_7 := hid (Nw_6.out.step hb_7.out)
        have B_7 := hid (B_6.out.trans (hb_7.out.mono (by omega)))
        have z_7 : u6.heap.size ≤ u7.heap.size := hb_7.out.size
        clear Kv_6 Kg_6 Kw_6 Nv_6 Ng_6 Nw_6 B_6
        clear hb_7
        clear hb
        clear Nw_7
        clear Kw_7
        obtain ⟨an, az, ak, hS⟩ : ∃ an az ak, joinR on oz ((len2 : Int) % 8) = ((an, az), ak) := ⟨_, _, _, rfl⟩
        have hSl := joinR_lenY hS
        replace hS := hid hS
        obtain ⟨bn, bz, bk, hT⟩ : ∃ bn bz bk, joinR n zs ((len2 : Int) % 8) = ((bn, bz), bk) := ⟨_, _, _, rfl⟩
        have hTl := joinR_lenY hT
        replace hT := hid hT
        obtain ⟨qg0, qg1, -, -⟩ := Kg_7.out.two
        go_wp2_with fail
        refine (((ViewJoin_impl on _ _ Ng_7.out.at_ Ng_7.out.capY (by omega) (Sn.below sA.out B_7.out) (Sn.below sB.out B_7.out)).mono fun _ _ h => VPost.x' hS.out h)).mono ?_
        rintro e u8 ⟨Ad, cd, rfl, od, hb⟩
        clear qg0 qg1
        have hb_8 := hid hb
        have Kv_8 := hid (Kv_7.out.step hb_8.out)
        have Kg_8 := hid (Kg_7.out.step hb_8.out)
        have Nv_8 := hid (Nv_7.out.step hb_8.out)
        have Ng_8 := hid (Ng_7.out.step hb_8.out)
        have B_8 := hid (B_7.out.trans (hb_8.out.mono (by omega)))
        have z_8 : u7.heap.size ≤ u8.heap.size := hb_8.out.size
        clear Kv_7 Kg_7 Nv_7 Ng_7 B_7
        clear hb_8
        clear hb
        have Nd_8 := hid (Lv.ofI od)
        clear od
        go_upto_region 10 with (fail)
        obtain ⟨u9, hu⟩ : ∃ W, (u8.alloc (.cells #[.int .i64 an, .slice Ad az.length cd] 25)) = W := ⟨_, rfl⟩
        rw [hu]
        have hb : Below u8.heap.size u8 u9 := by rw [← hu]; exact below1 _ _
        have hcd : Cs u9 (u8.heap.size) 25 #[.int .i64 an, .slice Ad az.length cd] := by rw [← hu]; exact Cs.new _ _ _
        clear hu
        have hb_9 := hid hb
        have Kv_9 := hid (Kv_8.out.step hb_9.out)
        have Kg_9 := hid (Kg_8.out.step hb_9.out)
        have Nv_9 := hid (Nv_8.out.step hb_9.out)
        have Ng_9 := hid (Ng_8.out.step hb_9.out)
        have Nd_9 := hid (Nd_8.out.step hb_9.out)
        have B_9 := hid (B_8.out.trans (hb_9.out.mono (by omega)))
        have z_9 : u8.heap.size ≤ u9.heap.size := hb_9.out.size
        clear Kv_8 Kg_8 Nv_8 Ng_8 Nd_8 B_8
        clear hb_9
        clear hb
        have Kd_9 := hid hcd
        have yd_9 : u8.heap.size < u9.heap.size := hcd.lt
        clear hcd
        obtain ⟨qv0, qv1, -, -⟩ := Kv_9.out.two
        go_wp2_with fail
        refine (((ViewJoin_impl n _ _ Nv_9.out.at_ Nv_9.out.capY (by omega) (Sn.below sA.out B_9.out) (Sn.below sB.out B_9.out)).mono fun _ _ h => VPost.x' hT.out h)).mono ?_
        rintro e u10 ⟨Ab, cb, rfl, ob, hb⟩
        clear qv0 qv1
        have hb_10 := hid hb
        have Kv_10 := hid (Kv_9.out.step hb_10.out)
        have Kg_10 := hid (Kg_9.out.step hb_10.out)
        have Kd_10 := hid (Kd_9.out.step hb_10.out)
        have Nv_10 := hid (Nv_9.out.step hb_10.out)
        have Ng_10 := hid (Ng_9.out.step hb_10.out)
        have Nd_10 := hid (Nd_9.out.step hb_10.out)
        have B_10 := hid (B_9.out.trans (hb_10.out.mono (by omega)))
        have z_10 : u9.heap.size ≤ u10.heap.size := hb_10.out.size
        clear Kv_9 Kg_9 Kd_9 Nv_9 Ng_9 Nd_9 B_9
        clear hb_10
        clear hb
        have Nb_10 := hid (Lv.ofI ob)
        clear ob
        go_upto_region 11 with (fail)
        obtain ⟨u11, hu⟩ : ∃ W, (u10.alloc (.cells #[.int .i64 bn, .slice Ab bz.length cb] 25)) = W := ⟨_, rfl⟩
        rw [hu]
        have hb : Below u10.heap.size u10 u11 := by rw [← hu]; exact below1 _ _
        have hcb : Cs u11 (u10.heap.size) 25 #[.int .i64 bn, .slice Ab bz.length cb] := by rw [← hu]; exact Cs.new _ _ _
        clear hu
        have hb_11 := hid hb
        have Kv_11 := hid (Kv_10.out.step hb_11.out)
        have Kg_11 := hid (Kg_10.out.step hb_11.out)
        have Kd_11 := hid (Kd_10.out.step hb_11.out)
        have Nv_11 := hid (Nv_10.out.step hb_11.out)
        have Ng_11 := hid (Ng_10.out.step hb_11.out)
        have Nd_11 := hid (Nd_10.out.step hb_11.out)
        have Nb_11 := hid (Nb_10.out.step hb_11.out)
        have B_11 := hid (B_10.out.trans (hb_11.out.mono (by omega)))
        have z_11 : u10.heap.size ≤ u11.heap.size := hb_11.out.size
        clear Kv_10 Kg_10 Kd_10 Nv_10 Ng_10 Nd_10 Nb_10 B_10
        clear hb_11
        clear hb
        have Kb_11 := hid hcb
        have yb_11 : u10.heap.size < u11.heap.size := hcb.lt
        clear hcb
        cases ak with
        | false =>
          go_wp2
          go_ret
          exact ⟨rfl, B_11.out⟩
        | true =>
          cases bk with
          | false =>
            go_wp2
            go_ret
            exact ⟨rfl, B_11.out⟩
          | true =>
            have hU := hid (order_of hR.out hS.out hT.out)
            obtain ⟨qb0, qb1, -, -⟩ := Kb_11.out.two
            go_wp2_with fail
            refine (((ViewJoin_impl bn x _ Nb_11.out.at_ Nb_11.out.capY (by omega) (Sn.below sA.out B_11.out) (Sn.below sB.out B_11.out)).mono fun _ _ h => VPost.x' hU.out h)).mono ?_
            rintro e u12 ⟨Af, cf, rfl, of, hb⟩
            clear qb0 qb1
            have hb_12 := hid hb
            have Kv_12 := hid (Kv_11.out.step hb_12.out)
            have Kg_12 := hid (Kg_11.out.step hb_12.out)
            have Kd_12 := hid (Kd_11.out.step hb_12.out)
            have Kb_12 := hid (Kb_11.out.step hb_12.out)
            have Nv_12 := hid (Nv_11.out.step hb_12.out)
            have Ng_12 := hid (Ng_11.out.step hb_12.out)
            have Nd_12 := hid (Nd_11.out.step hb_12.out)
            have Nb_12 := hid (Nb_11.out.step hb_12.out)
            have B_12 := hid (B_11.out.trans (hb_12.out.mono (by omega)))
            have z_12 : u11.heap.size ≤ u12.heap.size := hb_12.out.size
            clear Kv_11 Kg_11 Kd_11 Kb_11 Nv_11 Ng_11 Nd_11 Nb_11 B_11
            clear hb_12
            clear hb
            have Nf_12 := hid (Lv.ofI of)
            clear of
            go_upto_region 14 with (fail)
            obtain ⟨u13, hu⟩ : ∃ W, (u12.alloc (.cells #[.int .i64 an, .slice Af az.length cf] 25)) = W := ⟨_, rfl⟩
            rw [hu]
            have hb : Below u12.heap.size u12 u13 := by rw [← hu]; exact below1 _ _
            have hcf : Cs u13 (u12.heap.size) 25 #[.int .i64 an, .slice Af az.length cf] := by rw [← hu]; exact Cs.new _ _ _
            clear hu
            have hb_13 := hid hb
            have Kv_13 := hid (Kv_12.out.step hb_13.out)
            have Kg_13 := hid (Kg_12.out.step hb_13.out)
            have Kd_13 := hid (Kd_12.out.step hb_13.out)
            have Kb_13 := hid (Kb_12.out.step hb_13.out)
            have Nv_13 := hid (Nv_12.out.step hb_13.out)
            have Ng_13 := hid (Ng_12.out.step hb_13.out)
            have Nd_13 := hid (Nd_12.out.step hb_13.out)
            have Nb_13 := hid (Nb_12.out.step hb_13.out)
            have Nf_13 := hid (Nf_12.out.step hb_13.out)
            have B_13 := hid (B_12.out.trans (hb_13.out.mono (by omega)))
            have z_13 : u12.heap.size ≤ u13.heap.size := hb_13.out.size
            clear Kv_12 Kg_12 Kd_12 Kb_12 Nv_12 Ng_12 Nd_12 Nb_12 Nf_12 B_12
            clear hb_13
            clear hb
            have Kf_13 := hid hcf
            have yf_13 : u12.heap.size < u13.heap.size := hcf.lt
            clear hcf
            obtain ⟨qf0, qf1, -, -⟩ := Kf_13.out.two
            obtain ⟨qd0, qd1, -, -⟩ := Kd_13.out.two
            go_wp2_with fail
            refine (sameView_same an _ Nf_13.out.at_ Nd_13.out.at_ (by omega)).mono ?_
            rintro e u14 ⟨rfl, hb⟩
            clear qf0 qf1 qd0 qd1
            have hb_14 := hid hb
            have Kv_14 := hid (Kv_13.out.step hb_14.out)
            have Kg_14 := hid (Kg_13.out.step hb_14.out)
            have Kd_14 := hid (Kd_13.out.step hb_14.out)
            have Kb_14 := hid (Kb_13.out.step hb_14.out)
            have Kf_14 := hid (Kf_13.out.step hb_14.out)
            have Nv_14 := hid (Nv_13.out.step hb_14.out)
            have Ng_14 := hid (Ng_13.out.step hb_14.out)
            have Nd_14 := hid (Nd_13.out.step hb_14.out)
            have Nb_14 := hid (Nb_13.out.step hb_14.out)
            have Nf_14 := hid (Nf_13.out.step hb_14.out)
            have B_14 := hid (B_13.out.trans (hb_14.out.mono (by omega)))
            have z_14 : u13.heap.size ≤ u14.heap.size := hb_14.out.size
            clear Kv_13 Kg_13 Kd_13 Kb_13 Kf_13 Nv_13 Ng_13 Nd_13 Nb_13 Nf_13 B_13
            clear hb_14
            clear hb
            go_wp2
            go_ret
            exact ⟨rfl, B_14.out⟩
end Go.Proofs.YtppdfgifnmfioaaDoor
