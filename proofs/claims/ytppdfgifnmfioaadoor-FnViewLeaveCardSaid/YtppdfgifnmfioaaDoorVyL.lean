/-
  The walk of the law ViewLeave: it returns true, and nothing that was there is written. No condition.
-/
import Derived.Test.YtppdfgifnmfioaaDoorVyA
import Derived.Deep.CutBlock
import Derived.Deep.RegionLaw
import Derived.Deep.RegionHeld3
import Derived.Deep.DeepCutAuto
namespace Go.Proofs.YtppdfgifnmfioaaDoor
open Go.RowKit
set_option linter.unusedVariables false
set_option linter.unusedSimpArgs false

set_option maxRecDepth 100000 in
set_option maxHeartbeats 16000000 in
theorem lawViewLeave {a : Option Addr} {len cap : Nat} {bs : List Int} (w : World) (h : RowIs .u8 w a len cap bs) {e0 : Addr} (sB : Sn w 1 e0) {e1 : Addr} (sA : Sn w 2 e1) :
    Calls Tryd.prog 4 #[.slice a len cap] w fun e w' => e = .returned (.bool true) ∧ Below w.heap.size w w' := by
  obtain ⟨u0, rfl⟩ : ∃ u, u = w := ⟨w, rfl⟩
  have hl := h.len_leY
  have B_0 := hid (Below.refl u0.heap.size u0)
  have h' := hid h
  have sB := hid sB
  have sA := hid sA
  clear h
  by_cases hbig : 1048576 < len
  · go_enter Tryd.func4, Tryd.ntmps4
    go_wp2
    go_ret
    exact ⟨rfl, B_0.out⟩
  · go_enter Tryd.func4, Tryd.ntmps4
    go_wp2_with fail
    refine (DrawViewLeave_any _ h'.out).mono ?_
    rintro e u1 ⟨n, A, c, zs, x, rfl, o1, hl9, hx0, hx1, hb⟩
    have hb_1 := hid hb
    have B_1 := hid (B_0.out.trans (hb_1.out.mono (by omega)))
    have z_1 : u0.heap.size ≤ u1.heap.size := hb_1.out.size
    clear  B_0
    clear hb_1
    clear hb
    have Nv_1 := hid (Lv.ofI o1)
    clear o1
    go_upto_region 4 with (fail)
    obtain ⟨u2, hu⟩ : ∃ W, (u1.alloc (.cells #[.int .i64 n, .slice A zs.length c] 25)) = W := ⟨_, rfl⟩
    rw [hu]
    have hb : Below u1.heap.size u1 u2 := by rw [← hu]; exact below1 _ _
    have hcv : Cs u2 (u1.heap.size) 25 #[.int .i64 n, .slice A zs.length c] := by rw [← hu]; exact Cs.new _ _ _
    clear hu
    have hb_2 := hid hb
    have Nv_2 := hid (Nv_1.out.step hb_2.out)
    have B_2 := hid (B_1.out.trans (hb_2.out.mono (by omega)))
    have z_2 : u1.heap.size ≤ u2.heap.size := hb_2.out.size
    clear Nv_1 B_1
    clear hb_2
    clear hb
    have Kv_2 := hid hcv
    have yv_2 : u1.heap.size < u2.heap.size := hcv.lt
    clear hcv
    obtain ⟨on, oz, ok, hR⟩ : ∃ on oz ok, leaveR n zs x = ((on, oz), ok) := ⟨_, _, _, rfl⟩
    have hRl := leaveR_lenY hR
    replace hR := hid hR
    obtain ⟨qv0, qv1, -, -⟩ := Kv_2.out.two
    go_wp2_with fail
    refine (((ViewLeave_impl n x _ Nv_2.out.at_ Nv_2.out.capY (by omega) (Sn.below sA.out B_2.out) (Sn.below sB.out B_2.out)).mono fun _ _ h => VPost.x' hR.out h)).mono ?_
    rintro e u3 ⟨Ag, cg, rfl, og, hb⟩
    clear qv0 qv1
    have hb_3 := hid hb
    have Kv_3 := hid (Kv_2.out.step hb_3.out)
    have Nv_3 := hid (Nv_2.out.step hb_3.out)
    have B_3 := hid (B_2.out.trans (hb_3.out.mono (by omega)))
    have z_3 : u2.heap.size ≤ u3.heap.size := hb_3.out.size
    clear Kv_2 Nv_2 B_2
    clear hb_3
    clear hb
    have Ng_3 := hid (Lv.ofI og)
    clear og
    go_upto_region 5 with (fail)
    obtain ⟨u4, hu⟩ : ∃ W, (u3.alloc (.cells #[.int .i64 on, .slice Ag oz.length cg] 25)) = W := ⟨_, rfl⟩
    rw [hu]
    have hb : Below u3.heap.size u3 u4 := by rw [← hu]; exact below1 _ _
    have hcg : Cs u4 (u3.heap.size) 25 #[.int .i64 on, .slice Ag oz.length cg] := by rw [← hu]; exact Cs.new _ _ _
    clear hu
    have hb_4 := hid hb
    have Kv_4 := hid (Kv_3.out.step hb_4.out)
    have Nv_4 := hid (Nv_3.out.step hb_4.out)
    have Ng_4 := hid (Ng_3.out.step hb_4.out)
    have B_4 := hid (B_3.out.trans (hb_4.out.mono (by omega)))
    have z_4 : u3.heap.size ≤ u4.heap.size := hb_4.out.size
    clear Kv_3 Nv_3 Ng_3 B_3
    clear hb_4
    clear hb
    have Kg_4 := hid hcg
    have yg_4 : u3.heap.size < u4.heap.size := hcg.lt
    clear hcg
    obtain ⟨qv0, qv1, -, -⟩ := Kv_4.out.two
    go_wp2_with fail
    refine (((ViewLeave_spec n x _ Nv_4.out.at_ (by omega)).mono fun _ _ h => VPost.x' hR.out h)).mono ?_
    rintro e u5 ⟨Aw, cw, rfl, ow, hb⟩
    clear qv0 qv1
    have hb_5 := hid hb
    have Kv_5 := hid (Kv_4.out.step hb_5.out)
    have Kg_5 := hid (Kg_4.out.step hb_5.out)
    have Nv_5 := hid (Nv_4.out.step hb_5.out)
    have Ng_5 := hid (Ng_4.out.step hb_5.out)
    have B_5 := hid (B_4.out.trans (hb_5.out.mono (by omega)))
    have z_5 : u4.heap.size ≤ u5.heap.size := hb_5.out.size
    clear Kv_4 Kg_4 Nv_4 Ng_4 B_4
    clear hb_5
    clear hb
    have Nw_5 := hid (Lv.ofI ow)
    clear ow
    go_upto_region 6 with (fail)
    obtain ⟨u6, hu⟩ : ∃ W, (u5.alloc (.cells #[.int .i64 on, .slice Aw oz.length cw] 25)) = W := ⟨_, rfl⟩
    rw [hu]
    have hb : Below u5.heap.size u5 u6 := by rw [← hu]; exact below1 _ _
    have hcw : Cs u6 (u5.heap.size) 25 #[.int .i64 on, .slice Aw oz.length cw] := by rw [← hu]; exact Cs.new _ _ _
    clear hu
    have hb_6 := hid hb
    have Kv_6 := hid (Kv_5.out.step hb_6.out)
    have Kg_6 := hid (Kg_5.out.step hb_6.out)
    have Nv_6 := hid (Nv_5.out.step hb_6.out)
    have Ng_6 := hid (Ng_5.out.step hb_6.out)
    have Nw_6 := hid (Nw_5.out.step hb_6.out)
    have B_6 := hid (B_5.out.trans (hb_6.out.mono (by omega)))
    have z_6 : u5.heap.size ≤ u6.heap.size := hb_6.out.size
    clear Kv_5 Kg_5 Nv_5 Ng_5 Nw_5 B_5
    clear hb_6
    clear hb
    have Kw_6 := hid hcw
    have yw_6 : u5.heap.size < u6.heap.size := hcw.lt
    clear hcw
    cases ok with
    | false =>
      obtain ⟨qg0, qg1, -, -⟩ := Kg_6.out.two
      obtain ⟨qw0, qw1, -, -⟩ := Kw_6.out.two
      go_wp2_with fail
      refine (sameView_same on _ Ng_6.out.at_ Nw_6.out.at_ (by omega)).mono ?_
      rintro e u7 ⟨rfl, hb⟩
      clear qg0 qg1 qw0 qw1
      have hb_7 := hid hb
      have Kv_7 := hid (Kv_6.out.step hb_7.out)
      have Kg_7 := hid (Kg_6.out.step hb_7.out)
      have Kw_7 := hid (Kw_6.out.step hb_7.out)
      have Nv_7 := hid (Nv_6.out.step hb_7.out)
      have Ng_7 := hid (Ng_6.out.step hb_7.out)
      have Nw_7 := hid (Nw_6.out.step hb_7.out)
      have B_7 := hid (B_6.out.trans (hb_7.out.mono (by omega)))
      have z_7 : u6.heap.size ≤ u7.heap.size := hb_7.out.size
      clear Kv_6 Kg_6 Kw_6 Nv_6 Ng_6 Nw_6 B_6
      clear hb_7
      clear hb
      obtain ⟨qg0, qg1, -, -⟩ := Kg_7.out.two
      obtain ⟨qw0, qw1, -, -⟩ := Kw_7.out.two
      go_wp2_with fail
      refine (sameView_same on _ Ng_7.out.at_ Nw_7.out.at_ (by omega)).mono ?_
      rintro e u8 ⟨rfl, hb⟩
      clear qg0 qg1 qw0 qw1
      have hb_8 := hid hb
      have Kv_8 := hid (Kv_7.out.step hb_8.out)
      have Kg_8 := hid (Kg_7.out.step hb_8.out)
      have Kw_8 := hid (Kw_7.out.step hb_8.out)
      have Nv_8 := hid (Nv_7.out.step hb_8.out)
      have Ng_8 := hid (Ng_7.out.step hb_8.out)
      have Nw_8 := hid (Nw_7.out.step hb_8.out)
      have B_8 := hid (B_7.out.trans (hb_8.out.mono (by omega)))
      have z_8 : u7.heap.size ≤ u8.heap.size := hb_8.out.size
      clear Kv_7 Kg_7 Kw_7 Nv_7 Ng_7 Nw_7 B_7
      clear hb_8
      clear hb
      go_wp2
      go_ret
      exact ⟨rfl, B_8.out⟩
    | true =>
      obtain ⟨qg0, qg1, -, -⟩ := Kg_6.out.two
      obtain ⟨qw0, qw1, -, -⟩ := Kw_6.out.two
      go_wp2_with fail
      refine (sameView_same on _ Ng_6.out.at_ Nw_6.out.at_ (by omega)).mono ?_
      rintro e u7 ⟨rfl, hb⟩
      clear qg0 qg1 qw0 qw1
      have hb_7 := hid hb
      have Kv_7 := hid (Kv_6.out.step hb_7.out)
      have Kg_7 := hid (Kg_6.out.step hb_7.out)
      have Kw_7 := hid (Kw_6.out.step hb_7.out)
      have Nv_7 := hid (Nv_6.out.step hb_7.out)
      have Ng_7 := hid (Ng_6.out.step hb_7.out)
      have Nw_7 := hid (Nw_6.out.step hb_7.out)
      have B_7 := hid (B_6.out.trans (hb_7.out.mono (by omega)))
      have z_7 : u6.heap.size ≤ u7.heap.size := hb_7.out.size
      clear Kv_6 Kg_6 Kw_6 Nv_6 Ng_6 Nw_6 B_6
      clear hb_7
      clear hb
      clear Nw_7
      clear Kw_7
      obtain ⟨hv0, hhx, hv1, hon, hoz⟩ := leaveR_ok hR.out
      obtain ⟨⟨hn0, hn1⟩, hp0, hMv⟩ := vwB_true.1 hv0
      replace hhx := hid hhx
      have hv1 := hid (show vwB on oz = true by rw [hon, hoz]; exact hv1)
      replace hv0 := hid hv0
      subst hon
      have hhas := hid (fun m : Int => (show hasB oz m = (hasB zs m && !decide (m = x)) by rw [hoz]; exact del_has hMv hhx.out))
      replace hoz := hid hoz
      replace hMv := hid hMv
      have rg := hid Ng_7.out.at_
      have rv := hid Nv_7.out.at_
      obtain ⟨qg0, qg1, -, -⟩ := Kg_7.out.two
      obtain ⟨qv0, qv1, -, -⟩ := Kv_7.out.two
      go_wp2
      go_loopw [9] (fun i wr => ∃ k : Nat, k ≤ 8 ∧ i = .int .i64 k ∧ Hid (Qt u7 wr)) (fun i _ => 8 - (intOf i).toNat)
      case atStart => exact ⟨0, Nat.zero_le _, rfl, hid (Qt.refl _)⟩
      case round =>
        obtain ⟨k, hk, rfl, hq⟩ := hrel
        have y0 := hq.out.cellY qg0
        have y1 := hq.out.cellY qg1
        have y2 := hq.out.cellY qv0
        have y3 := hq.out.cellY qv1
        clear qg0 qg1 qv0 qv1
        by_cases hlt : k < 8
        · have f1 := hid (hq.out.reads rg.out)
          have f2 := hid (hq.out.reads rv.out)
          have hh := hhas.out (k : Int)
          obtain ⟨p, hp⟩ : ∃ p, hasB zs (k : Int) = p := ⟨_, rfl⟩
          obtain ⟨q, hq9⟩ : ∃ q, hasB oz (k : Int) = q := ⟨_, rfl⟩
          rw [hp, hq9] at hh
          replace hp := hid hp
          replace hq9 := hid hq9
          have i1 : (k : Int) < 8 := by omega
          by_cases hkx : (k : Int) = x
          · rw [decide_eq_true hkx] at hh
            subst hkx
            cases p with
            | false =>
              obtain rfl : q = false := by simpa using hh
              clear hh
              go_wp2
              go_quiet (first | (go_at_call 17; with_reducible exact same_call (hasInt_asV hq9.out _ (Reads.drewN f1.out _) (by omega))) | (go_at_call 17; with_reducible exact same_call (hasInt_asV hp.out _ (Reads.drewN f2.out _) (by omega))))
              go_wp2
              go_roundw
              case rel => exact ⟨k + 1, by omega, by go_num, hid (hq.out.drewN _)⟩
              case measure => simp [intOf]; omega
            | true =>
              obtain rfl : q = false := by simpa using hh
              clear hh
              go_wp2
              go_quiet (first | (go_at_call 17; with_reducible exact same_call (hasInt_asV hq9.out _ (Reads.drewN f1.out _) (by omega))) | (go_at_call 17; with_reducible exact same_call (hasInt_asV hp.out _ (Reads.drewN f2.out _) (by omega))))
              go_wp2
              go_roundw
              case rel => exact ⟨k + 1, by omega, by go_num, hid (hq.out.drewN _)⟩
              case measure => simp [intOf]; omega
          · rw [decide_eq_false hkx] at hh
            have hkb : ((k : Int) != x) = true := by simpa using hkx
            cases p with
            | false =>
              obtain rfl : q = false := by simpa using hh
              clear hh
              go_wp2
              go_quiet (first | (go_at_call 17; with_reducible exact same_call (hasInt_asV hq9.out _ (Reads.drewN f1.out _) (by omega))) | (go_at_call 17; with_reducible exact same_call (hasInt_asV hp.out _ (Reads.drewN f2.out _) (by omega))))
              go_wp2
              go_roundw
              case rel => exact ⟨k + 1, by omega, by go_num, hid (hq.out.drewN _)⟩
              case measure => simp [intOf]; omega
            | true =>
              obtain rfl : q = true := by simpa using hh
              clear hh
              go_wp2
              go_quiet (first | (go_at_call 17; with_reducible exact same_call (hasInt_asV hq9.out _ (Reads.drewN f1.out _) (by omega))) | (go_at_call 17; with_reducible exact same_call (hasInt_asV hp.out _ (Reads.drewN f2.out _) (by omega))))
              go_wp2
              go_roundw
              case rel => exact ⟨k + 1, by omega, by go_num, hid (hq.out.drewN _)⟩
              case measure => simp [intOf]; omega
        · have i1 : ¬ (k : Int) < 8 := by omega
          have f1 := hid ((hq.out.reads rg.out).more (show u7.heap.size ≤ wr.heap.size by rw [hq.out.size]; exact Nat.le_refl _))
          have f2 := hid ((hq.out.reads rv.out).more (show u7.heap.size ≤ wr.heap.size by rw [hq.out.size]; exact Nat.le_refl _))
          have hw1 : IntKind.i64.wrap (n + 1) = n + 1 := IntWalk.i64_in _ (by omega)
          go_wp2_with fail
          refine (ViewValid_impl (n + 1) _ f1.out (by omega) hv1.out).mono ?_
          rintro e wz ⟨rfl, hb⟩
          have hB := hid ((B_7.out.trans ((hq.out.below _))).trans (hb.mono (by rw [hq.out.size]; omega)))
          have y4 := cell_belowY hb y1
          have y5 := cell_belowY hb y3
          have f3 := hid (Reads.below f2.out hb)
          clear hb y0 y1 y2 y3
          go_wp2_with fail
          refine (hasInt_asV hhx.out _ f3.out (by omega)).mono ?_
          rintro e wy ⟨rfl, rfl⟩
          go_wp2
          go_ret
          exact ⟨by simp, hB.out⟩
end Go.Proofs.YtppdfgifnmfioaaDoor
