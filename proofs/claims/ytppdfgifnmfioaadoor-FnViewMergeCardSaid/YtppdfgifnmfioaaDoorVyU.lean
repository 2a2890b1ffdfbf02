/-
  The walk of the law ViewMerge: it returns true, and nothing that was there is written. No condition.
-/
import Derived.Test.YtppdfgifnmfioaaDoorVyA
import Derived.Test.YtppdfgifnmfioaaDoorVdD
import Derived.Test.YtppdfgifnmfioaaDoorVyT
import Derived.Deep.CutBlock
import Derived.Deep.RegionLaw
import Derived.Deep.RegionHeld3
import Derived.Deep.DeepCutAuto
namespace Go.Proofs.YtppdfgifnmfioaaDoor
open Go.RowKit
set_option linter.unusedVariables false
set_option linter.unusedSimpArgs false

theorem mergeR_ok {n k on : Int} {zs ys oz : List Int} (h : mergeR n zs k ys = ((on, oz), true)) : vwB n zs = true ∧ vwB k ys = true ∧ comB zs ys = false ∧ vwB (max n k + 1) (mg zs ys) = true ∧ on = max n k + 1 ∧ oz = mg zs ys := by
  unfold mergeR at h
  split at h
  · rename_i hv
    rw [Bool.and_eq_true, Bool.and_eq_true] at hv
    unfold vwR at h
    split at h
    · rename_i h2
      injection h with h _
      injection h with h3 h4
      exact ⟨hv.1.1, hv.1.2, by simpa using hv.2, h2, h3.symm, h4.symm⟩
    · simp [vr0] at h
  · simp [vr0] at h

theorem merge_other {n k on : Int} {zs ys oz : List Int} (h : mergeR n zs k ys = ((on, oz), true)) : mergeR k ys n zs = ((on, oz), true) := by
  obtain ⟨h1, h2, h3, -⟩ := mergeR_ok h
  rw [mergeR_yes h1 h2 h3] at h
  rw [mergeR_yes h2 h1 (by rw [com_symm]; exact h3), Int.max_comm, mg_symm]
  exact h

set_option maxRecDepth 100000 in
set_option maxHeartbeats 16000000 in
theorem lawViewMerge {a : Option Addr} {len cap : Nat} {bs : List Int} (w : World) (h : RowIs .u8 w a len cap bs) {e0 : Addr} (sB : Sn w 1 e0) {e1 : Addr} (sA : Sn w 0 e1) :
    Calls Tryd.prog 10 #[.slice a len cap] w fun e w' => e = .returned (.bool true) ∧ Below w.heap.size w w' := by
  obtain ⟨u0, rfl⟩ : ∃ u, u = w := ⟨w, rfl⟩
  have hl := h.len_leY
  have B_0 := hid (Below.refl u0.heap.size u0)
  have h' := hid h
  have sB := hid sB
  have sA := hid sA
  clear h
  by_cases hbig : 1048576 < len
  · go_enter Tryd.func10, Tryd.ntmps10
    go_wp2
    go_ret
    exact ⟨rfl, B_0.out⟩
  · go_enter Tryd.func10, Tryd.ntmps10
    go_wp2_with fail
    refine (DrawViewMerge_any _ h'.out).mono ?_
    rintro e u1 ⟨n, A, c, zs, kn, A9, c9, ys, rfl, o1, o2, hl9, hl8, hb⟩
    have hb_1 := hid hb
    have B_1 := hid (B_0.out.trans (hb_1.out.mono (by omega)))
    have z_1 : u0.heap.size ≤ u1.heap.size := hb_1.out.size
    clear  B_0
    clear hb_1
    clear hb
    have Nv_1 := hid (Lv.ofI o1)
    clear o1
    have Ns_1 := hid (Lv.ofI o2)
    clear o2
    go_upto_region 4 with (fail)
    obtain ⟨u2, hu⟩ : ∃ W, ((u1.alloc (.cells #[.int .i64 n, .slice A zs.length c] 25)).alloc (.cells #[.int .i64 kn, .slice A9 ys.length c9] 25)) = W := ⟨_, rfl⟩
    rw [hu]
    have hb : Below u1.heap.size u1 u2 := by rw [← hu]; exact below2 _ _ _
    have hcv : Cs u2 (u1.heap.size) 25 #[.int .i64 n, .slice A zs.length c] := by rw [← hu]; exact (Cs.new _ _ _).alloc _
    have hcs : Cs u2 (u1.heap.size + 1) 25 #[.int .i64 kn, .slice A9 ys.length c9] := by rw [← hu]; exact Cs.new' _ _ _ (by simp)
    clear hu
    have hb_2 := hid hb
    have Nv_2 := hid (Nv_1.out.step hb_2.out)
    have Ns_2 := hid (Ns_1.out.step hb_2.out)
    have B_2 := hid (B_1.out.trans (hb_2.out.mono (by omega)))
    have z_2 : u1.heap.size ≤ u2.heap.size := hb_2.out.size
    clear Nv_1 Ns_1 B_1
    clear hb_2
    clear hb
    have Kv_2 := hid hcv
    have yv_2 : u1.heap.size < u2.heap.size := hcv.lt
    clear hcv
    have Ks_2 := hid hcs
    have ys_2 : u1.heap.size + 1 < u2.heap.size := hcs.lt
    clear hcs
    obtain ⟨on, oz, ok, hR⟩ : ∃ on oz ok, mergeR n zs kn ys = ((on, oz), ok) := ⟨_, _, _, rfl⟩
    have hRl := mergeR_lenY hR
    replace hR := hid hR
    obtain ⟨qv0, qv1, -, -⟩ := Kv_2.out.two
    obtain ⟨qs0, qs1, -, -⟩ := Ks_2.out.two
    go_wp2_with fail
    refine (((ViewMerge_impl n kn _ Nv_2.out.at_ Nv_2.out.capY Ns_2.out.at_ (by omega) (by omega) (Sn.below sA.out B_2.out) (Sn.below sB.out B_2.out)).mono fun _ _ h => VPost.x' hR.out h)).mono ?_
    rintro e u3 ⟨Ag, cg, rfl, og, hb⟩
    clear qv0 qv1 qs0 qs1
    have hb_3 := hid hb
    have Kv_3 := hid (Kv_2.out.step hb_3.out)
    have Ks_3 := hid (Ks_2.out.step hb_3.out)
    have Nv_3 := hid (Nv_2.out.step hb_3.out)
    have Ns_3 := hid (Ns_2.out.step hb_3.out)
    have B_3 := hid (B_2.out.trans (hb_3.out.mono (by omega)))
    have z_3 : u2.heap.size ≤ u3.heap.size := hb_3.out.size
    clear Kv_2 Ks_2 Nv_2 Ns_2 B_2
    clear hb_3
    clear hb
    have Ng_3 := hid (Lv.ofI og)
    clear og
    go_upto_region 5 with (fail)
    obtain ⟨u4, hu⟩ : ∃ W, (u3.alloc (.cells #[.int .i64 on, .slice Ag oz.length cg] 25)) = W := ⟨_, rfl⟩
    rw [hu]
    have hb : Below u3.heap.size u3 u4 := by rw [← hu]; exact below1 _ _
    have hcg : Cs u4 (u3.heap.size) 25 #[.int .i64 on, .slice Ag oz.length cg] := by rw [← hu]; exact Cs.new _ _ _
    clear hu
    have hb_4 := hid hb
    have Kv_4 := hid (Kv_3.out.step hb_4.out)
    have Ks_4 := hid (Ks_3.out.step hb_4.out)
    have Nv_4 := hid (Nv_3.out.step hb_4.out)
    have Ns_4 := hid (Ns_3.out.step hb_4.out)
    have Ng_4 := hid (Ng_3.out.step hb_4.out)
    have B_4 := hid (B_3.out.trans (hb_4.out.mono (by omega)))
    have z_4 : u3.heap.size ≤ u4.heap.size := hb_4.out.size
    clear Kv_3 Ks_3 Nv_3 Ns_3 Ng_3 B_3
    clear hb_4
    clear hb
    have Kg_4 := hid hcg
    have yg_4 : u3.heap.size < u4.heap.size := hcg.lt
    clear hcg
    obtain ⟨qv0, qv1, -, -⟩ := Kv_4.out.two
    obtain ⟨qs0, qs1, -, -⟩ := Ks_4.out.two
    go_wp2_with fail
    refine (((ViewMerge_spec n kn _ Nv_4.out.at_ Ns_4.out.at_ (by omega) (by omega)).mono fun _ _ h => VPost.x' hR.out h)).mono ?_
    rintro e u5 ⟨Aw, cw, rfl, ow, hb⟩
    clear qv0 qv1 qs0 qs1
    have hb_5 := hid hb
    have Kv_5 := hid (Kv_4.out.step hb_5.out)
    have Ks_5 := hid (Ks_4.out.step hb_5.out)
    have Kg_5 := hid (Kg_4.out.step hb_5.out)
    have Nv_5 := hid (Nv_4.out.step hb_5.out)
    have Ns_5 := hid (Ns_4.out.step hb_5.out)
    have Ng_5 := hid (Ng_4.out.step hb_5.out)
    have B_5 := hid (B_4.out.trans (hb_5.out.mono (by omega)))
    have z_5 : u4.heap.size ≤ u5.heap.size := hb_5.out.size
    clear Kv_4 Ks_4 Kg_4 Nv_4 Ns_4 Ng_4 B_4
    clear hb_5
    clear hb
    have Nw_5 := hid (Lv.ofI ow)
    clear ow
    go_upto_region 6 with (fail)
    obtain ⟨u6, hu⟩ : ∃ W, (u5.alloc (.cells #[.int .i64 on, .slice Aw oz.length cw] 25)) = W := ⟨_, rfl⟩
    rw [hu]
    have hb : Below u5.heap.size u5 u6 := by rw [← hu]; exact below1 _ _
    have hcw : Cs u6 (u5.heap.size) 25 #[.int .i64 on, .slice Aw oz.length cw] := by rw [← hu]; exact Cs.new _ _ _
    clear hu
    have hb_6 := hid hb
    have Kv_6 := hid (Kv_5.out.step hb_6.out)
    have Ks_6 := hid (Ks_5.out.step hb_6.out)
    have Kg_6 := hid (Kg_5.out.step hb_6.out)
    have Nv_6 := hid (Nv_5.out.step hb_6.out)
    have Ns_6 := hid (Ns_5.out.step hb_6.out)
    have Ng_6 := hid (Ng_5.out.step hb_6.out)
    have Nw_6 := hid (Nw_5.out.step hb_6.out)
    have B_6 := hid (B_5.out.trans (hb_6.out.mono (by omega)))
    have z_6 : u5.heap.size ≤ u6.heap.size := hb_6.out.size
    clear Kv_5 Ks_5 Kg_5 Nv_5 Ns_5 Ng_5 Nw_5 B_5
    clear hb_6
    clear hb
    have Kw_6 := hid hcw
    have yw_6 : u5.heap.size < u6.heap.size := hcw.lt
    clear hcw
    cases ok with
    | false =>
      obtain ⟨qg0, qg1, -, -⟩ := Kg_6.out.two
      obtain ⟨qw0, qw1, -, -⟩ := Kw_6.out.two
      go_wp2_with fail
      refine (sameView_same on _ Ng_6.out.at_ Nw_6.out.at_ (by omega)).mono ?_
      rintro e u7 ⟨rfl, hb⟩
      clear qg0 qg1 qw0 qw1
      have hb_7 := hid hb
      have Kv_7 := hid (Kv_6.out.step hb_7.out)
      have Ks_7 := hid (Ks_6.out.step hb_7.out)
      have Kg_7 := hid (Kg_6.out.step hb_7.out)
      have Kw_7 := hid (Kw_6.out.step hb_7.out)
      have Nv_7 := hid (Nv_6.out.step hb_7.out)
      have Ns_7 := hid (Ns_6.out.step hb_7.out)
      have Ng_7 := hid (Ng_6.out.step hb_7.out)
      have Nw_7 := hid (Nw_6.out.step hb_7.out)
      have B_7 := hid (B_6.out.trans (hb_7.out.mono (by omega)))
      have z_7 : u6.heap.size ≤ u7.heap.size := hb_7.out.size
      clear Kv_6 Ks_6 Kg_6 Kw_6 Nv_6 Ns_6 Ng_6 Nw_6 B_6
      clear hb_7
      clear hb
      obtain ⟨qg0, qg1, -, -⟩ := Kg_7.out.two
      obtain ⟨qw0, qw1, -, -⟩ := Kw_7.out.two
      go_wp2_with fail
      refine (sameView_same on _ Ng_7.out.at_ Nw_7.out.at_ (by omega)).mono ?_
      rintro e u8 ⟨rfl, hb⟩
      clear qg0 qg1 qw0 qw1
      have hb_8 := hid hb
      have Kv_8 := hid (Kv_7.out.step hb_8.out)
      have Ks_8 := hid (Ks_7.out.step hb_8.out)
      have Kg_8 := hid (Kg_7.out.step hb_8.out)
      have Kw_8 := hid (Kw_7.out.step hb_8.out)
      have Nv_8 := hid (Nv_7.out.step hb_8.out)
      have Ns_8 := hid (Ns_7.out.step hb_8.out)
      have Ng_8 := hid (Ng_7.out.step hb_8.out)
      have Nw_8 := hid (Nw_7.out.step hb_8.out)
      have B_8 := hid (B_7.out.trans (hb_8.out.mono (by omega)))
      have z_8 : u7.heap.size ≤ u8.heap.size := hb_8.out.size
      clear Kv_7 Ks_7 Kg_7 Kw_7 Nv_7 Ns_7 Ng_7 Nw_7 B_7
      clear hb_8
      clear hb
      go_wp2
      go_ret
      exact ⟨rfl, B_8.out⟩
    | true =>
      obtain ⟨qg0, qg1, -, -⟩ := Kg_6.out.two
      obtain ⟨qw0, qw1, -, -⟩ := Kw_6.out.two
      go_wp2_with fail
      refine (sameView_same on _ Ng_6.out.at_ Nw_6.out.at_ (by omega)).mono ?_
      rintro e u7 ⟨rfl, hb⟩
      clear qg0 qg1 qw0 qw1
      have hb_7 := hid hb
      have Kv_7 := hid (Kv_6.out.step hb_7.out)
      have Ks_7 := hid (Ks_6.out.step hb_7.out)
      have Kg_7 := hid (Kg_6.out.step hb_7.out)
      have Kw_7 := hid (Kw_6.out.step hb_7.out)
      have Nv_7 := hid (Nv_6.out.step hb_7.out)
      have Ns_7 := hid (Ns_6.out.step hb_7.out)
      have Ng_7 := hid (Ng_6.out.step hb_7.out)
      have Nw_7 := hid (Nw_6.out.step hb_7.out)
      have B_7 := hid (B_6.out.trans (hb_7.out.mono (by omega)))
      have z_7 : u6.heap.size ≤ u7.heap.size := hb_7.out.size
      clear Kv_6 Ks_6 Kg_6 Kw_6 Nv_6 Ns_6 Ng_6 Nw_6 B_6
      clear hb_7
      clear hb
      clear Nw_7
      clear Kw_7
      obtain ⟨hv0, hk0, hc0, hv1, hon, hoz⟩ := mergeR_ok hR.out
      obtain ⟨⟨hn0, hn1⟩, hp0, hMz⟩ := vwB_true.1 hv0
      obtain ⟨-, -, hMy⟩ := vwB_true.1 hk0
      have hv2 := hid (show vwB on oz = true by rw [hon, hoz]; exact hv1)
      have hhas := hid (fun m : Int => (show hasB oz m = (hasB zs m || hasB ys m) by rw [hoz]; exact mg_has hMz hMy))
      have hgt1 : on > n := by omega
      have hgt2 : on > kn := by omega
      have hU := hid (merge_other hR.out)
      clear hv0 hk0 hc0 hv1 hon hoz hMz hMy
      have rg := hid Ng_7.out.at_
      have rv := hid Nv_7.out.at_
      have rs := hid Ns_7.out.at_
      obtain ⟨qg0, qg1, -, -⟩ := Kg_7.out.two
      obtain ⟨qv0, qv1, -, -⟩ := Kv_7.out.two
      obtain ⟨qs0, qs1, -, -⟩ := Ks_7.out.two
      go_wp2
      go_loopw [9] (fun i wr => ∃ k : Nat, k ≤ 8 ∧ i = .int .i64 k ∧ Hid (Qt u7 wr)) (fun i _ => 8 - (intOf i).toNat)
      case atStart => exact ⟨0, Nat.zero_le _, rfl, hid (Qt.refl _)⟩
      case round =>
        obtain ⟨k, hk, rfl, hq⟩ := hrel
        by_cases hlt : k < 8
        · have y1 := hq.out.cellY qg1
          have y3 := hq.out.cellY qv1
          have y5 := hq.out.cellY qs1
          clear qg0 qg1 qv0 qv1 qs0 qs1
          have f1 := hid (hq.out.reads rg.out)
          have f2 := hid (hq.out.reads rv.out)
          have f3 := hid (hq.out.reads rs.out)
          have hh := hhas.out (k : Int)
          obtain ⟨p, hp⟩ : ∃ p, hasB zs (k : Int) = p := ⟨_, rfl⟩
          obtain ⟨r, hr9⟩ : ∃ p, hasB ys (k : Int) = p := ⟨_, rfl⟩
          obtain ⟨q, hq9⟩ : ∃ q, hasB oz (k : Int) = q := ⟨_, rfl⟩
          rw [hp, hr9, hq9] at hh
          replace hp := hid hp
          replace hr9 := hid hr9
          replace hq9 := hid hq9
          have i1 : (k : Int) < 8 := by omega
          cases p with
          | false =>
            cases r with
            | false =>
              obtain rfl : q = false := by simpa using hh
              clear hh
              go_wp2
              go_quiet (first | (go_at_call 17; with_reducible exact same_call (hasInt_asV hq9.out _ (Reads.drewN f1.out _) (by omega))) | (go_at_call 17; with_reducible exact same_call (hasInt_asV hp.out _ (Reads.drewN f2.out _) (by omega))) | (go_at_call 17; with_reducible exact same_call (hasInt_asV hr9.out _ (Reads.drewN f3.out _) (by omega))))
              go_wp2
              go_roundw
              case rel => exact ⟨k + 1, by omega, by go_num, hid (hq.out.drewN _)⟩
              case measure => simp [intOf]; omega
            | true =>
              obtain rfl : q = true := by simpa using hh
              clear hh
              go_wp2
              go_quiet (first | (go_at_call 17; with_reducible exact same_call (hasInt_asV hq9.out _ (Reads.drewN f1.out _) (by omega))) | (go_at_call 17; with_reducible exact same_call (hasInt_asV hp.out _ (Reads.drewN f2.out _) (by omega))) | (go_at_call 17; with_reducible exact same_call (hasInt_asV hr9.out _ (Reads.drewN f3.out _) (by omega))))
              go_wp2
              go_roundw
              case rel => exact ⟨k + 1, by omega, by go_num, hid (hq.out.drewN _)⟩
              case measure => simp [intOf]; omega
          | true =>
            cases r with
            | false =>
              obtain rfl : q = true := by simpa using hh
              clear hh
              go_wp2
              go_quiet (first | (go_at_call 17; with_reducible exact same_call (hasInt_asV hq9.out _ (Reads.drewN f1.out _) (by omega))) | (go_at_call 17; with_reducible exact same_call (hasInt_asV hp.out _ (Reads.drewN f2.out _) (by omega))) | (go_at_call 17; with_reducible exact same_call (hasInt_asV hr9.out _ (Reads.drewN f3.out _) (by omega))))
              go_wp2
              go_roundw
              case rel => exact ⟨k + 1, by omega, by go_num, hid (hq.out.drewN _)⟩
              case measure => simp [intOf]; omega
            | true =>
              obtain rfl : q = true := by simpa using hh
              clear hh
              go_wp2
              go_quiet (first | (go_at_call 17; with_reducible exact same_call (hasInt_asV hq9.out _ (Reads.drewN f1.out _) (by omega))) | (go_at_call 17; with_reducible exact same_call (hasInt_asV hp.out _ (Reads.drewN f2.out _) (by omega))) | (go_at_call 17; with_reducible exact same_call (hasInt_asV hr9.out _ (Reads.drewN f3.out _) (by omega))))
              go_wp2
              go_roundw
              case rel => exact ⟨k + 1, by omega, by go_num, hid (hq.out.drewN _)⟩
              case measure => simp [intOf]; omega
        · have i1 : ¬ (k : Int) < 8 := by omega
          clear qg0 qg1 qv0 qv1 qs0 qs1 rg rv rs
          obtain ⟨u8, rfl⟩ : ∃ x, x = wr := ⟨wr, rfl⟩
          have hb_8 := hid (hq.out.below u7.heap.size)
          have Kv_8 := hid (Kv_7.out.step hb_8.out)
          have Ks_8 := hid (Ks_7.out.step hb_8.out)
          have Kg_8 := hid (Kg_7.out.step hb_8.out)
          have Nv_8 := hid (Nv_7.out.step hb_8.out)
          have Ns_8 := hid (Ns_7.out.step hb_8.out)
          have Ng_8 := hid (Ng_7.out.step hb_8.out)
          have B_8 := hid (B_7.out.trans (hb_8.out.mono (by omega)))
          have z_8 : u7.heap.size ≤ u8.heap.size := hb_8.out.size
          clear Kv_7 Ks_7 Kg_7 Nv_7 Ns_7 Ng_7 B_7
          clear hb_8
          obtain ⟨qs0, qs1, -, -⟩ := Ks_8.out.two
          obtain ⟨qv0, qv1, -, -⟩ := Kv_8.out.two
          go_wp2_with fail
          refine (((ViewMerge_impl kn n _ Ns_8.out.at_ Ns_8.out.capY Nv_8.out.at_ (by omega) (by omega) (Sn.below sA.out B_8.out) (Sn.below sB.out B_8.out)).mono fun _ _ h => VPost.x' hU.out h)).mono ?_
          rintro e u9 ⟨Ab, cb, rfl, ob, hb⟩
          clear qs0 qs1 qv0 qv1
          have hb_9 := hid hb
          have Kv_9 := hid (Kv_8.out.step hb_9.out)
          have Ks_9 := hid (Ks_8.out.step hb_9.out)
          have Kg_9 := hid (Kg_8.out.step hb_9.out)
          have Nv_9 := hid (Nv_8.out.step hb_9.out)
          have Ns_9 := hid (Ns_8.out.step hb_9.out)
          have Ng_9 := hid (Ng_8.out.step hb_9.out)
          have B_9 := hid (B_8.out.trans (hb_9.out.mono (by omega)))
          have z_9 : u8.heap.size ≤ u9.heap.size := hb_9.out.size
          clear Kv_8 Ks_8 Kg_8 Nv_8 Ns_8 Ng_8 B_8
          clear hb_9
          clear hb
          have Nb_9 := hid (Lv.ofI ob)
          clear ob
          go_upto_region 14 with (fail)
          obtain ⟨u10, hu⟩ : ∃ W, (u9.alloc (.cells #[.int .i64 on, .slice Ab oz.length cb] 25)) = W := ⟨_, rfl⟩
          rw [hu]
          have hb : Below u9.heap.size u9 u10 := by rw [← hu]; exact below1 _ _
          have hcb : Cs u10 (u9.heap.size) 25 #[.int .i64 on, .slice Ab oz.length cb] := by rw [← hu]; exact Cs.new _ _ _
          clear hu
          have hb_10 := hid hb
          have Kv_10 := hid (Kv_9.out.step hb_10.out)
          have Ks_10 := hid (Ks_9.out.step hb_10.out)
          have Kg_10 := hid (Kg_9.out.step hb_10.out)
          have Nv_10 := hid (Nv_9.out.step hb_10.out)
          have Ns_10 := hid (Ns_9.out.step hb_10.out)
          have Ng_10 := hid (Ng_9.out.step hb_10.out)
          have Nb_10 := hid (Nb_9.out.step hb_10.out)
          have B_10 := hid (B_9.out.trans (hb_10.out.mono (by omega)))
          have z_10 : u9.heap.size ≤ u10.heap.size := hb_10.out.size
          clear Kv_9 Ks_9 Kg_9 Nv_9 Ns_9 Ng_9 Nb_9 B_9
          clear hb_10
          clear hb
          have Kb_10 := hid hcb
          have yb_10 : u9.heap.size < u10.heap.size := hcb.lt
          clear hcb
          obtain ⟨qb0, qb1, -, -⟩ := Kb_10.out.two
          obtain ⟨qg0, qg1, -, -⟩ := Kg_10.out.two
          go_wp2_with fail
          refine (sameView_same on _ Nb_10.out.at_ Ng_10.out.at_ (by omega)).mono ?_
          rintro e u11 ⟨rfl, hb⟩
          clear qb0 qb1 qg0 qg1
          have hb_11 := hid hb
          have Kv_11 := hid (Kv_10.out.step hb_11.out)
          have Ks_11 := hid (Ks_10.out.step hb_11.out)
          have Kg_11 := hid (Kg_10.out.step hb_11.out)
          have Kb_11 := hid (Kb_10.out.step hb_11.out)
          have Nv_11 := hid (Nv_10.out.step hb_11.out)
          have Ns_11 := hid (Ns_10.out.step hb_11.out)
          have Ng_11 := hid (Ng_10.out.step hb_11.out)
          have Nb_11 := hid (Nb_10.out.step hb_11.out)
          have B_11 := hid (B_10.out.trans (hb_11.out.mono (by omega)))
          have z_11 : u10.heap.size ≤ u11.heap.size := hb_11.out.size
          clear Kv_10 Ks_10 Kg_10 Kb_10 Nv_10 Ns_10 Ng_10 Nb_10 B_10
          clear hb_11
          clear hb
          obtain ⟨qg0, qg1, -, -⟩ := Kg_11.out.two
          obtain ⟨qv0, qv1, -, -⟩ := Kv_11.out.two
          obtain ⟨qs0, qs1, -, -⟩ := Ks_11.out.two
          go_wp2_with fail
          refine (ViewValid_impl on _ Ng_11.out.at_ (by omega) hv2.out).mono ?_
          rintro e u12 ⟨rfl, hb⟩
          have B9 := hid (B_11.out.trans (hb.mono (by omega)))
          clear hb
          go_wp2
          go_ret
          exact ⟨rfl, B9.out⟩
end Go.Proofs.YtppdfgifnmfioaaDoor
