/-
  The walk of the law ViewSplitMerge: it returns true, and nothing that was there is written. No condition.
-/
import Derived.Test.YtppdfgifnmfioaaDoorVyA
import Derived.Test.YtppdfgifnmfioaaDoorVyS
import Derived.Test.YtppdfgifnmfioaaDoorVwN
import Derived.Deep.CutBlock
import Derived.Deep.RegionLaw
import Derived.Deep.RegionHeld3
import Derived.Deep.DeepCutAuto
namespace Go.Proofs.YtppdfgifnmfioaaDoor
open Go.RowKit
set_option linter.unusedVariables false
set_option linter.unusedSimpArgs false

theorem mergeR_lenY {n k : Int} {zs ys : List Int} {on : Int} {oz : List Int} {ok : Bool} (h : mergeR n zs k ys = ((on, oz), ok)) : oz.length ≤ 8 := by
  unfold mergeR at h
  split at h
  · exact vwR_lenY h
  · injection h with h _
    injection h with _ h
    rw [← h]; simp

theorem splitmerge_of {n x on pn bn : Int} {zs oz pz bz : List Int} {ok : Bool} (h : splitR n zs x = ((on, oz), (pn, pz), true)) (h2 : mergeR on oz pn pz = ((bn, bz), ok)) : (ok = true ∧ bz = zs ∧ bn = n + 2) ∨ (ok = false ∧ on = 99) := by
  obtain ⟨hv, h3, h4, rfl, rfl, rfl, rfl⟩ := splitR_ok h
  obtain ⟨⟨a1, a2⟩, a3, hz⟩ := vwB_true.1 hv
  obtain ⟨⟨b1, b2⟩, -⟩ := vwB_true.1 h3
  rw [mergeR_yes h3 h4 com_split, mg_split hz] at h2
  have hm : max (n + 1) (n + 1) + 1 = n + 2 := by omega
  rw [hm] at h2
  unfold vwR at h2
  split at h2
  · injection h2 with h2 h5
    injection h2 with h6 h7
    exact .inl ⟨h5.symm, h7.symm, h6.symm⟩
  · rename_i hv3
    injection h2 with h2 h5
    refine .inr ⟨h5.symm, ?_⟩
    rcases Int.lt_or_le (n + 1) 99 with h8 | h8
    · exact absurd (vwB_true.2 ⟨⟨by omega, by omega⟩, a3, hz⟩) hv3
    · omega

set_option maxRecDepth 100000 in
set_option maxHeartbeats 16000000 in
theorem lawViewSplitMerge {a : Option Addr} {len cap : Nat} {bs : List Int} (w : World) (h : RowIs .u8 w a len cap bs) {e0 : Addr} (sB : Sn w 1 e0) {e1 : Addr} (sA : Sn w 0 e1) :
    Calls Tryd.prog 9 #[.slice a len cap] w fun e w' => e = .returned (.bool true) ∧ Below w.heap.size w w' := by
  obtain ⟨u0, rfl⟩ : ∃ u, u = w := ⟨w, rfl⟩
  have hl := h.len_leY
  have B_0 := hid (Below.refl u0.heap.size u0)
  have h' := hid h
  have sB := hid sB
  have sA := hid sA
  clear h
  by_cases hbig : 1048576 < len
  · go_enter Tryd.func9, Tryd.ntmps9
    go_wp2
    go_ret
    exact ⟨rfl, B_0.out⟩
  · go_enter Tryd.func9, Tryd.ntmps9
    go_wp2_with fail
    refine (DrawViewSplit_any _ h'.out).mono ?_
    rintro e u1 ⟨n, A, c, zs, x, rfl, o1, hl9, hx0, hx1, hb⟩
    have hb_1 := hid hb
    have B_1 := hid (B_0.out.trans (hb_1.out.mono (by omega)))
    have z_1 : u0.heap.size ≤ u1.heap.size := hb_1.out.size
    clear  B_0
    clear hb_1
    clear hb
    have Nv_1 := hid (Lv.ofI o1)
    clear o1
    go_upto_region 4 with (fail)
    obtain ⟨u2, hu⟩ : ∃ W, (u1.alloc (.cells #[.int .i64 n, .slice A zs.length c] 25)) = W := ⟨_, rfl⟩
    rw [hu]
    have hb : Below u1.heap.size u1 u2 := by rw [← hu]; exact below1 _ _
    have hcv : Cs u2 (u1.heap.size) 25 #[.int .i64 n, .slice A zs.length c] := by rw [← hu]; exact Cs.new _ _ _
    clear hu
    have hb_2 := hid hb
    have Nv_2 := hid (Nv_1.out.step hb_2.out)
    have B_2 := hid (B_1.out.trans (hb_2.out.mono (by omega)))
    have z_2 : u1.heap.size ≤ u2.heap.size := hb_2.out.size
    clear Nv_1 B_1
    clear hb_2
    clear hb
    have Kv_2 := hid hcv
    have yv_2 : u1.heap.size < u2.heap.size := hcv.lt
    clear hcv
    obtain ⟨on, oz, pn, pz, ok, hR⟩ : ∃ on oz pn pz ok, splitR n zs x = ((on, oz), (pn, pz), ok) := ⟨_, _, _, _, _, rfl⟩
    have hRl := splitR_len hR
    obtain ⟨hRl1, hRl2⟩ := hRl
    replace hR := hid hR
    obtain ⟨qv0, qv1, -, -⟩ := Kv_2.out.two
    go_wp2_with fail
    refine ((ViewSplit_impl n x _ Nv_2.out.at_ Nv_2.out.capY (by omega) (Sn.below sB.out B_2.out)).mono fun _ _ h => SPost.x' hR.out h).mono ?_
    rintro e u3 ⟨Ap, cp, Aq, cq, rfl, op, oq, hb⟩
    clear qv0 qv1
    have hb_3 := hid hb
    have Kv_3 := hid (Kv_2.out.step hb_3.out)
    have Nv_3 := hid (Nv_2.out.step hb_3.out)
    have B_3 := hid (B_2.out.trans (hb_3.out.mono (by omega)))
    have z_3 : u2.heap.size ≤ u3.heap.size := hb_3.out.size
    clear Kv_2 Nv_2 B_2
    clear hb_3
    clear hb
    have Np_3 := hid (Lv.ofI op)
    clear op
    have Nq_3 := hid (Lv.ofI oq)
    clear oq
    go_upto_region 5 with (fail)
    obtain ⟨u4, hu⟩ : ∃ W, ((u3.alloc (.cells #[.int .i64 on, .slice Ap oz.length cp] 25)).alloc (.cells #[.int .i64 pn, .slice Aq pz.length cq] 25)) = W := ⟨_, rfl⟩
    rw [hu]
    have hb : Below u3.heap.size u3 u4 := by rw [← hu]; exact below2 _ _ _
    have hcp : Cs u4 (u3.heap.size) 25 #[.int .i64 on, .slice Ap oz.length cp] := by rw [← hu]; exact (Cs.new _ _ _).alloc _
    have hcq : Cs u4 (u3.heap.size + 1) 25 #[.int .i64 pn, .slice Aq pz.length cq] := by rw [← hu]; exact Cs.new' _ _ _ (by simp)
    clear hu
    have hb_4 := hid hb
    have Kv_4 := hid (Kv_3.out.step hb_4.out)
    have Nv_4 := hid (Nv_3.out.step hb_4.out)
    have Np_4 := hid (Np_3.out.step hb_4.out)
    have Nq_4 := hid (Nq_3.out.step hb_4.out)
    have B_4 := hid (B_3.out.trans (hb_4.out.mono (by omega)))
    have z_4 : u3.heap.size ≤ u4.heap.size := hb_4.out.size
    clear Kv_3 Nv_3 Np_3 Nq_3 B_3
    clear hb_4
    clear hb
    have Kp_4 := hid hcp
    have yp_4 : u3.heap.size < u4.heap.size := hcp.lt
    clear hcp
    have Kq_4 := hid hcq
    have yq_4 : u3.heap.size + 1 < u4.heap.size := hcq.lt
    clear hcq
    obtain ⟨qv0, qv1, -, -⟩ := Kv_4.out.two
    go_wp2_with fail
    refine ((ViewSplit_spec n x _ Nv_4.out.at_ (by omega)).mono fun _ _ h => SPost.x' hR.out h).mono ?_
    rintro e u5 ⟨Ar, cr, At, ct, rfl, or, ot, hb⟩
    clear qv0 qv1
    have hb_5 := hid hb
    have Kv_5 := hid (Kv_4.out.step hb_5.out)
    have Kp_5 := hid (Kp_4.out.step hb_5.out)
    have Kq_5 := hid (Kq_4.out.step hb_5.out)
    have Nv_5 := hid (Nv_4.out.step hb_5.out)
    have Np_5 := hid (Np_4.out.step hb_5.out)
    have Nq_5 := hid (Nq_4.out.step hb_5.out)
    have B_5 := hid (B_4.out.trans (hb_5.out.mono (by omega)))
    have z_5 : u4.heap.size ≤ u5.heap.size := hb_5.out.size
    clear Kv_4 Kp_4 Kq_4 Nv_4 Np_4 Nq_4 B_4
    clear hb_5
    clear hb
    have Nr_5 := hid (Lv.ofI or)
    clear or
    have Nt_5 := hid (Lv.ofI ot)
    clear ot
    go_upto_region 6 with (fail)
    obtain ⟨u6, hu⟩ : ∃ W, ((u5.alloc (.cells #[.int .i64 on, .slice Ar oz.length cr] 25)).alloc (.cells #[.int .i64 pn, .slice At pz.length ct] 25)) = W := ⟨_, rfl⟩
    rw [hu]
    have hb : Below u5.heap.size u5 u6 := by rw [← hu]; exact below2 _ _ _
    have hcr : Cs u6 (u5.heap.size) 25 #[.int .i64 on, .slice Ar oz.length cr] := by rw [← hu]; exact (Cs.new _ _ _).alloc _
    have hct : Cs u6 (u5.heap.size + 1) 25 #[.int .i64 pn, .slice At pz.length ct] := by rw [← hu]; exact Cs.new' _ _ _ (by simp)
    clear hu
    have hb_6 := hid hb
    have Kv_6 := hid (Kv_5.out.step hb_6.out)
    have Kp_6 := hid (Kp_5.out.step hb_6.out)
    have Kq_6 := hid (Kq_5.out.step hb_6.out)
    have Nv_6 := hid (Nv_5.out.step hb_6.out)
    have Np_6 := hid (Np_5.out.step hb_6.out)
    have Nq_6 := hid (Nq_5.out.step hb_6.out)
    have Nr_6 := hid (Nr_5.out.step hb_6.out)
    have Nt_6 := hid (Nt_5.out.step hb_6.out)
    have B_6 := hid (B_5.out.trans (hb_6.out.mono (by omega)))
    have z_6 : u5.heap.size ≤ u6.heap.size := hb_6.out.size
    clear Kv_5 Kp_5 Kq_5 Nv_5 Np_5 Nq_5 Nr_5 Nt_5 B_5
    clear hb_6
    clear hb
    have Kr_6 := hid hcr
    have yr_6 : u5.heap.size < u6.heap.size := hcr.lt
    clear hcr
    have Kt_6 := hid hct
    have yt_6 : u5.heap.size + 1 < u6.heap.size := hct.lt
    clear hct
    cases ok with
    | false =>
      obtain ⟨qp0, qp1, -, -⟩ := Kp_6.out.two
      obtain ⟨qr0, qr1, -, -⟩ := Kr_6.out.two
      go_wp2_with fail
      refine (sameView_same on _ Np_6.out.at_ Nr_6.out.at_ (by omega)).mono ?_
      rintro e u7 ⟨rfl, hb⟩
      clear qp0 qp1 qr0 qr1
      have hb_7 := hid hb
      have Kv_7 := hid (Kv_6.out.step hb_7.out)
      have Kp_7 := hid (Kp_6.out.step hb_7.out)
      have Kq_7 := hid (Kq_6.out.step hb_7.out)
      have Kr_7 := hid (Kr_6.out.step hb_7.out)
      have Kt_7 := hid (Kt_6.out.step hb_7.out)
      have Nv_7 := hid (Nv_6.out.step hb_7.out)
      have Np_7 := hid (Np_6.out.step hb_7.out)
      have Nq_7 := hid (Nq_6.out.step hb_7.out)
      have Nr_7 := hid (Nr_6.out.step hb_7.out)
      have Nt_7 := hid (Nt_6.out.step hb_7.out)
      have B_7 := hid (B_6.out.trans (hb_7.out.mono (by omega)))
      have z_7 : u6.heap.size ≤ u7.heap.size := hb_7.out.size
      clear Kv_6 Kp_6 Kq_6 Kr_6 Kt_6 Nv_6 Np_6 Nq_6 Nr_6 Nt_6 B_6
      clear hb_7
      clear hb
      obtain ⟨qq0, qq1, -, -⟩ := Kq_7.out.two
      obtain ⟨qt0, qt1, -, -⟩ := Kt_7.out.two
      go_wp2_with fail
      refine (sameView_same pn _ Nq_7.out.at_ Nt_7.out.at_ (by omega)).mono ?_
      rintro e u8 ⟨rfl, hb⟩
      clear qq0 qq1 qt0 qt1
      have hb_8 := hid hb
      have Kv_8 := hid (Kv_7.out.step hb_8.out)
      have Kp_8 := hid (Kp_7.out.step hb_8.out)
      have Kq_8 := hid (Kq_7.out.step hb_8.out)
      have Kr_8 := hid (Kr_7.out.step hb_8.out)
      have Kt_8 := hid (Kt_7.out.step hb_8.out)
      have Nv_8 := hid (Nv_7.out.step hb_8.out)
      have Np_8 := hid (Np_7.out.step hb_8.out)
      have Nq_8 := hid (Nq_7.out.step hb_8.out)
      have Nr_8 := hid (Nr_7.out.step hb_8.out)
      have Nt_8 := hid (Nt_7.out.step hb_8.out)
      have B_8 := hid (B_7.out.trans (hb_8.out.mono (by omega)))
      have z_8 : u7.heap.size ≤ u8.heap.size := hb_8.out.size
      clear Kv_7 Kp_7 Kq_7 Kr_7 Kt_7 Nv_7 Np_7 Nq_7 Nr_7 Nt_7 B_7
      clear hb_8
      clear hb
      obtain ⟨qp0, qp1, -, -⟩ := Kp_8.out.two
      obtain ⟨qr0, qr1, -, -⟩ := Kr_8.out.two
      go_wp2_with fail
      refine (sameView_same on _ Np_8.out.at_ Nr_8.out.at_ (by omega)).mono ?_
      rintro e u9 ⟨rfl, hb⟩
      clear qp0 qp1 qr0 qr1
      have hb_9 := hid hb
      have Kv_9 := hid (Kv_8.out.step hb_9.out)
      have Kp_9 := hid (Kp_8.out.step hb_9.out)
      have Kq_9 := hid (Kq_8.out.step hb_9.out)
      have Kr_9 := hid (Kr_8.out.step hb_9.out)
      have Kt_9 := hid (Kt_8.out.step hb_9.out)
      have Nv_9 := hid (Nv_8.out.step hb_9.out)
      have Np_9 := hid (Np_8.out.step hb_9.out)
      have Nq_9 := hid (Nq_8.out.step hb_9.out)
      have Nr_9 := hid (Nr_8.out.step hb_9.out)
      have Nt_9 := hid (Nt_8.out.step hb_9.out)
      have B_9 := hid (B_8.out.trans (hb_9.out.mono (by omega)))
      have z_9 : u8.heap.size ≤ u9.heap.size := hb_9.out.size
      clear Kv_8 Kp_8 Kq_8 Kr_8 Kt_8 Nv_8 Np_8 Nq_8 Nr_8 Nt_8 B_8
      clear hb_9
      clear hb
      obtain ⟨qq0, qq1, -, -⟩ := Kq_9.out.two
      obtain ⟨qt0, qt1, -, -⟩ := Kt_9.out.two
      go_wp2_with fail
      refine (sameView_same pn _ Nq_9.out.at_ Nt_9.out.at_ (by omega)).mono ?_
      rintro e u10 ⟨rfl, hb⟩
      clear qq0 qq1 qt0 qt1
      have hb_10 := hid hb
      have Kv_10 := hid (Kv_9.out.step hb_10.out)
      have Kp_10 := hid (Kp_9.out.step hb_10.out)
      have Kq_10 := hid (Kq_9.out.step hb_10.out)
      have Kr_10 := hid (Kr_9.out.step hb_10.out)
      have Kt_10 := hid (Kt_9.out.step hb_10.out)
      have Nv_10 := hid (Nv_9.out.step hb_10.out)
      have Np_10 := hid (Np_9.out.step hb_10.out)
      have Nq_10 := hid (Nq_9.out.step hb_10.out)
      have Nr_10 := hid (Nr_9.out.step hb_10.out)
      have Nt_10 := hid (Nt_9.out.step hb_10.out)
      have B_10 := hid (B_9.out.trans (hb_10.out.mono (by omega)))
      have z_10 : u9.heap.size ≤ u10.heap.size := hb_10.out.size
      clear Kv_9 Kp_9 Kq_9 Kr_9 Kt_9 Nv_9 Np_9 Nq_9 Nr_9 Nt_9 B_9
      clear hb_10
      clear hb
      go_wp2
      go_ret
      exact ⟨rfl, B_10.out⟩
    | true =>
      obtain ⟨qp0, qp1, -, -⟩ := Kp_6.out.two
      obtain ⟨qr0, qr1, -, -⟩ := Kr_6.out.two
      go_wp2_with fail
      refine (sameView_same on _ Np_6.out.at_ Nr_6.out.at_ (by omega)).mono ?_
      rintro e u7 ⟨rfl, hb⟩
      clear qp0 qp1 qr0 qr1
      have hb_7 := hid hb
      have Kv_7 := hid (Kv_6.out.step hb_7.out)
      have Kp_7 := hid (Kp_6.out.step hb_7.out)
      have Kq_7 := hid (Kq_6.out.step hb_7.out)
      have Kr_7 := hid (Kr_6.out.step hb_7.out)
      have Kt_7 := hid (Kt_6.out.step hb_7.out)
      have Nv_7 := hid (Nv_6.out.step hb_7.out)
      have Np_7 := hid (Np_6.out.step hb_7.out)
      have Nq_7 := hid (Nq_6.out.step hb_7.out)
      have Nr_7 := hid (Nr_6.out.step hb_7.out)
      have Nt_7 := hid (Nt_6.out.step hb_7.out)
      have B_7 := hid (B_6.out.trans (hb_7.out.mono (by omega)))
      have z_7 : u6.heap.size ≤ u7.heap.size := hb_7.out.size
      clear Kv_6 Kp_6 Kq_6 Kr_6 Kt_6 Nv_6 Np_6 Nq_6 Nr_6 Nt_6 B_6
      clear hb_7
      clear hb
      obtain ⟨qq0, qq1, -, -⟩ := Kq_7.out.two
      obtain ⟨qt0, qt1, -, -⟩ := Kt_7.out.two
      go_wp2_with fail
      refine (sameView_same pn _ Nq_7.out.at_ Nt_7.out.at_ (by omega)).mono ?_
      rintro e u8 ⟨rfl, hb⟩
      clear qq0 qq1 qt0 qt1
      have hb_8 := hid hb
      have Kv_8 := hid (Kv_7.out.step hb_8.out)
      have Kp_8 := hid (Kp_7.out.step hb_8.out)
      have Kq_8 := hid (Kq_7.out.step hb_8.out)
      have Kr_8 := hid (Kr_7.out.step hb_8.out)
      have Kt_8 := hid (Kt_7.out.step hb_8.out)
      have Nv_8 := hid (Nv_7.out.step hb_8.out)
      have Np_8 := hid (Np_7.out.step hb_8.out)
      have Nq_8 := hid (Nq_7.out.step hb_8.out)
      have Nr_8 := hid (Nr_7.out.step hb_8.out)
      have Nt_8 := hid (Nt_7.out.step hb_8.out)
      have B_8 := hid (B_7.out.trans (hb_8.out.mono (by omega)))
      have z_8 : u7.heap.size ≤ u8.heap.size := hb_8.out.size
      clear Kv_7 Kp_7 Kq_7 Kr_7 Kt_7 Nv_7 Np_7 Nq_7 Nr_7 Nt_7 B_7
      clear hb_8
      clear hb
      clear Nr_8
      clear Kr_8
      clear Nt_8
      clear Kt_8
      obtain ⟨hv0, -⟩ := splitR_ok hR.out
      obtain ⟨⟨hn0, hn1⟩, -⟩ := vwB_true.1 hv0
      clear hv0
      obtain ⟨bn, bz, bk, hS⟩ : ∃ bn bz bk, mergeR on oz pn pz = ((bn, bz), bk) := ⟨_, _, _, rfl⟩
      have hSl := mergeR_lenY hS
      replace hS := hid hS
      have hbk := hid (splitmerge_of hR.out hS.out)
      obtain ⟨qp0, qp1, -, -⟩ := Kp_8.out.two
      obtain ⟨qq0, qq1, -, -⟩ := Kq_8.out.two
      go_wp2_with fail
      refine (((ViewMerge_impl on pn _ Np_8.out.at_ Np_8.out.capY Nq_8.out.at_ (by omega) (by omega) (Sn.below sA.out B_8.out) (Sn.below sB.out B_8.out)).mono fun _ _ h => VPost.x' hS.out h)).mono ?_
      rintro e u9 ⟨Ab, cb, rfl, ob, hb⟩
      clear qp0 qp1 qq0 qq1
      have hb_9 := hid hb
      have Kv_9 := hid (Kv_8.out.step hb_9.out)
      have Kp_9 := hid (Kp_8.out.step hb_9.out)
      have Kq_9 := hid (Kq_8.out.step hb_9.out)
      have Nv_9 := hid (Nv_8.out.step hb_9.out)
      have Np_9 := hid (Np_8.out.step hb_9.out)
      have Nq_9 := hid (Nq_8.out.step hb_9.out)
      have B_9 := hid (B_8.out.trans (hb_9.out.mono (by omega)))
      have z_9 : u8.heap.size ≤ u9.heap.size := hb_9.out.size
      clear Kv_8 Kp_8 Kq_8 Nv_8 Np_8 Nq_8 B_8
      clear hb_9
      clear hb
      have Nb_9 := hid (Lv.ofI ob)
      clear ob
      go_upto_region 9 with (fail)
      obtain ⟨u10, hu⟩ : ∃ W, (u9.alloc (.cells #[.int .i64 bn, .slice Ab bz.length cb] 25)) = W := ⟨_, rfl⟩
      rw [hu]
      have hb : Below u9.heap.size u9 u10 := by rw [← hu]; exact below1 _ _
      have hcb : Cs u10 (u9.heap.size) 25 #[.int .i64 bn, .slice Ab bz.length cb] := by rw [← hu]; exact Cs.new _ _ _
      clear hu
      have hb_10 := hid hb
      have Kv_10 := hid (Kv_9.out.step hb_10.out)
      have Kp_10 := hid (Kp_9.out.step hb_10.out)
      have Kq_10 := hid (Kq_9.out.step hb_10.out)
      have Nv_10 := hid (Nv_9.out.step hb_10.out)
      have Np_10 := hid (Np_9.out.step hb_10.out)
      have Nq_10 := hid (Nq_9.out.step hb_10.out)
      have Nb_10 := hid (Nb_9.out.step hb_10.out)
      have B_10 := hid (B_9.out.trans (hb_10.out.mono (by omega)))
      have z_10 : u9.heap.size ≤ u10.heap.size := hb_10.out.size
      clear Kv_9 Kp_9 Kq_9 Nv_9 Np_9 Nq_9 Nb_9 B_9
      clear hb_10
      clear hb
      have Kb_10 := hid hcb
      have yb_10 : u9.heap.size < u10.heap.size := hcb.lt
      clear hcb
      rcases hbk.out with ⟨e1, e2, e3⟩ | ⟨e1, e2⟩
      · obtain rfl := e2.symm
        subst e1
        subst e3
        obtain ⟨qb0, qb1, -, -⟩ := Kb_10.out.two
        obtain ⟨qv0, qv1, -, -⟩ := Kv_10.out.two
        have hw2 : IntKind.i64.wrap (n + 2) = n + 2 := IntWalk.i64_in _ (by omega)
        go_wp2_with fail
        refine (sameInts_any _ Nb_10.out.at_ Nv_10.out.at_ (by omega) (by omega)).mono ?_
        rw [sameB_selfY]
        rintro e u11 ⟨rfl, hq⟩
        clear qb0 qb1 qv0 qv1
        have hb_11 := hid (hq.below u10.heap.size)
        have Kv_11 := hid (Kv_10.out.step hb_11.out)
        have Kp_11 := hid (Kp_10.out.step hb_11.out)
        have Kq_11 := hid (Kq_10.out.step hb_11.out)
        have Kb_11 := hid (Kb_10.out.step hb_11.out)
        have Nv_11 := hid (Nv_10.out.step hb_11.out)
        have Np_11 := hid (Np_10.out.step hb_11.out)
        have Nq_11 := hid (Nq_10.out.step hb_11.out)
        have Nb_11 := hid (Nb_10.out.step hb_11.out)
        have B_11 := hid (B_10.out.trans (hb_11.out.mono (by omega)))
        have z_11 : u10.heap.size ≤ u11.heap.size := hb_11.out.size
        clear Kv_10 Kp_10 Kq_10 Kb_10 Nv_10 Np_10 Nq_10 Nb_10 B_10
        clear hb_11
        clear hq
        obtain ⟨qb0, qb1, -, -⟩ := Kb_11.out.two
        obtain ⟨qv0, qv1, -, -⟩ := Kv_11.out.two
        go_wp2
        go_ret
        exact ⟨rfl, B_11.out⟩
      · subst e1
        subst e2
        obtain ⟨qp0, qp1, -, -⟩ := Kp_10.out.two
        go_wp2
        go_ret
        exact ⟨rfl, B_10.out⟩
end Go.Proofs.YtppdfgifnmfioaaDoor
