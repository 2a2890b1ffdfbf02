/-
  The walk of the law ViewMajorityNext: it returns true, and nothing that was there is written. No condition.
-/
import Derived.Test.YtppdfgifnmfioaaDoorVyA
import Derived.Test.YtppdfgifnmfioaaDoorVyP
import Derived.Test.YtppdfgifnmfioaaDoorVwH
import Derived.Deep.CutBlock
import Derived.Deep.RegionLaw
import Derived.Deep.RegionHeld3
import Derived.Deep.DeepCutAuto
namespace Go.Proofs.YtppdfgifnmfioaaDoor
open Go.RowKit
set_option linter.unusedVariables false
set_option linter.unusedSimpArgs false

set_option maxRecDepth 100000 in
set_option maxHeartbeats 16000000 in
theorem lawViewMajorityNext {a : Option Addr} {len cap : Nat} {bs : List Int} {a2 : Option Addr} {len2 cap2 : Nat} {ys : List Int} (w : World) (h : RowIs .u8 w a len cap bs) (g : RowIs .u8 w a2 len2 cap2 ys) {e0 : Addr} (sB : Sn w 1 e0) {e1 : Addr} (sA : Sn w 0 e1) {e2 : Addr} (sC : Sn w 2 e2) :
    Calls Tryd.prog 7 #[.slice a len cap, .slice a2 len2 cap2] w fun e w' => e = .returned (.bool true) ∧ Below w.heap.size w w' := by
  obtain ⟨u0, rfl⟩ : ∃ u, u = w := ⟨w, rfl⟩
  have hl := h.len_leY
  have B_0 := hid (Below.refl u0.heap.size u0)
  have h' := hid h
  have sB := hid sB
  have sA := hid sA
  have sC := hid sC
  clear h
  by_cases hbig : 1048576 < len
  · go_enter Tryd.func7, Tryd.ntmps7
    go_wp2
    go_ret
    exact ⟨rfl, B_0.out⟩
  · have gl := g.len_leY
    have g' := hid g
    clear g
    by_cases hbig2 : 1048576 < len2
    · go_enter Tryd.func7, Tryd.ntmps7
      go_wp2
      go_ret
      exact ⟨rfl, B_0.out⟩
    · go_enter Tryd.func7, Tryd.ntmps7
      go_wp2_with fail
      refine (DrawViewJoin_any _ h'.out).mono ?_
      rintro e u1 ⟨n, A, c, zs, x, rfl, o1, hl9, hx0, hx1, hb⟩
      have hb_1 := hid hb
      have B_1 := hid (B_0.out.trans (hb_1.out.mono (by omega)))
      have z_1 : u0.heap.size ≤ u1.heap.size := hb_1.out.size
      clear  B_0
      clear hb_1
      clear hb
      have Nv_1 := hid (Lv.ofI o1)
      clear o1
      go_upto_region 4 with (fail)
      obtain ⟨u2, hu⟩ : ∃ W, (u1.alloc (.cells #[.int .i64 n, .slice A zs.length c] 25)) = W := ⟨_, rfl⟩
      rw [hu]
      have hb : Below u1.heap.size u1 u2 := by rw [← hu]; exact below1 _ _
      have hcv : Cs u2 (u1.heap.size) 25 #[.int .i64 n, .slice A zs.length c] := by rw [← hu]; exact Cs.new _ _ _
      clear hu
      have hb_2 := hid hb
      have Nv_2 := hid (Nv_1.out.step hb_2.out)
      have B_2 := hid (B_1.out.trans (hb_2.out.mono (by omega)))
      have z_2 : u1.heap.size ≤ u2.heap.size := hb_2.out.size
      clear Nv_1 B_1
      clear hb_2
      clear hb
      have Kv_2 := hid hcv
      have yv_2 : u1.heap.size < u2.heap.size := hcv.lt
      clear hcv
      obtain ⟨on, oz, ok, hR⟩ : ∃ on oz ok, joinR n zs x = ((on, oz), ok) := ⟨_, _, _, rfl⟩
      have hRl := joinR_lenY hR
      replace hR := hid hR
      obtain ⟨qv0, qv1, -, -⟩ := Kv_2.out.two
      go_wp2_with fail
      refine (((ViewJoin_impl n x _ Nv_2.out.at_ Nv_2.out.capY (by omega) (Sn.below sA.out B_2.out) (Sn.below sB.out B_2.out)).mono fun _ _ h => VPost.x' hR.out h)).mono ?_
      rintro e u3 ⟨Ag, cg, rfl, og, hb⟩
      clear qv0 qv1
      have hb_3 := hid hb
      have Kv_3 := hid (Kv_2.out.step hb_3.out)
      have Nv_3 := hid (Nv_2.out.step hb_3.out)
      have B_3 := hid (B_2.out.trans (hb_3.out.mono (by omega)))
      have z_3 : u2.heap.size ≤ u3.heap.size := hb_3.out.size
      clear Kv_2 Nv_2 B_2
      clear hb_3
      clear hb
      have Ng_3 := hid (Lv.ofI og)
      clear og
      go_upto_region 5 with (fail)
      obtain ⟨u4, hu⟩ : ∃ W, (u3.alloc (.cells #[.int .i64 on, .slice Ag oz.length cg] 25)) = W := ⟨_, rfl⟩
      rw [hu]
      have hb : Below u3.heap.size u3 u4 := by rw [← hu]; exact below1 _ _
      have hcg : Cs u4 (u3.heap.size) 25 #[.int .i64 on, .slice Ag oz.length cg] := by rw [← hu]; exact Cs.new _ _ _
      clear hu
      have hb_4 := hid hb
      have Kv_4 := hid (Kv_3.out.step hb_4.out)
      have Nv_4 := hid (Nv_3.out.step hb_4.out)
      have Ng_4 := hid (Ng_3.out.step hb_4.out)
      have B_4 := hid (B_3.out.trans (hb_4.out.mono (by omega)))
      have z_4 : u3.heap.size ≤ u4.heap.size := hb_4.out.size
      clear Kv_3 Nv_3 Ng_3 B_3
      clear hb_4
      clear hb
      have Kg_4 := hid hcg
      have yg_4 : u3.heap.size < u4.heap.size := hcg.lt
      clear hcg
      obtain ⟨qv0, qv1, -, -⟩ := Kv_4.out.two
      go_wp2_with fail
      refine (((ViewJoin_spec n x _ Nv_4.out.at_ Nv_4.out.capY (by omega)).mono fun _ _ h => VPost.x' hR.out h)).mono ?_
      rintro e u5 ⟨Aw, cw, rfl, ow, hb⟩
      clear qv0 qv1
      have hb_5 := hid hb
      have Kv_5 := hid (Kv_4.out.step hb_5.out)
      have Kg_5 := hid (Kg_4.out.step hb_5.out)
      have Nv_5 := hid (Nv_4.out.step hb_5.out)
      have Ng_5 := hid (Ng_4.out.step hb_5.out)
      have B_5 := hid (B_4.out.trans (hb_5.out.mono (by omega)))
      have z_5 : u4.heap.size ≤ u5.heap.size := hb_5.out.size
      clear Kv_4 Kg_4 Nv_4 Ng_4 B_4
      clear hb_5
      clear hb
      have Nw_5 := hid (Lv.ofI ow)
      clear ow
      go_upto_region 6 with (fail)
      obtain ⟨u6, hu⟩ : ∃ W, (u5.alloc (.cells #[.int .i64 on, .slice Aw oz.length cw] 25)) = W := ⟨_, rfl⟩
      rw [hu]
      have hb : Below u5.heap.size u5 u6 := by rw [← hu]; exact below1 _ _
      have hcw : Cs u6 (u5.heap.size) 25 #[.int .i64 on, .slice Aw oz.length cw] := by rw [← hu]; exact Cs.new _ _ _
      clear hu
      have hb_6 := hid hb
      have Kv_6 := hid (Kv_5.out.step hb_6.out)
      have Kg_6 := hid (Kg_5.out.step hb_6.out)
      have Nv_6 := hid (Nv_5.out.step hb_6.out)
      have Ng_6 := hid (Ng_5.out.step hb_6.out)
      have Nw_6 := hid (Nw_5.out.step hb_6.out)
      have B_6 := hid (B_5.out.trans (hb_6.out.mono (by omega)))
      have z_6 : u5.heap.size ≤ u6.heap.size := hb_6.out.size
      clear Kv_5 Kg_5 Nv_5 Ng_5 Nw_5 B_5
      clear hb_6
      clear hb
      have Kw_6 := hid hcw
      have yw_6 : u5.heap.size < u6.heap.size := hcw.lt
      clear hcw
      cases ok with
      | false =>
        obtain ⟨qg0, qg1, -, -⟩ := Kg_6.out.two
        obtain ⟨qw0, qw1, -, -⟩ := Kw_6.out.two
        go_wp2_with fail
        refine (sameView_same on _ Ng_6.out.at_ Nw_6.out.at_ (by omega)).mono ?_
        rintro e u7 ⟨rfl, hb⟩
        clear qg0 qg1 qw0 qw1
        have hb_7 := hid hb
        have Kv_7 := hid (Kv_6.out.step hb_7.out)
        have Kg_7 := hid (Kg_6.out.step hb_7.out)
        have Kw_7 := hid (Kw_6.out.step hb_7.out)
        have Nv_7 := hid (Nv_6.out.step hb_7.out)
        have Ng_7 := hid (Ng_6.out.step hb_7.out)
        have Nw_7 := hid (Nw_6.out.step hb_7.out)
        have B_7 := hid (B_6.out.trans (hb_7.out.mono (by omega)))
        have z_7 : u6.heap.size ≤ u7.heap.size := hb_7.out.size
        clear Kv_6 Kg_6 Kw_6 Nv_6 Ng_6 Nw_6 B_6
        clear hb_7
        clear hb
        obtain ⟨qg0, qg1, -, -⟩ := Kg_7.out.two
        obtain ⟨qw0, qw1, -, -⟩ := Kw_7.out.two
        go_wp2_with fail
        refine (sameView_same on _ Ng_7.out.at_ Nw_7.out.at_ (by omega)).mono ?_
        rintro e u8 ⟨rfl, hb⟩
        clear qg0 qg1 qw0 qw1
        have hb_8 := hid hb
        have Kv_8 := hid (Kv_7.out.step hb_8.out)
        have Kg_8 := hid (Kg_7.out.step hb_8.out)
        have Kw_8 := hid (Kw_7.out.step hb_8.out)
        have Nv_8 := hid (Nv_7.out.step hb_8.out)
        have Ng_8 := hid (Ng_7.out.step hb_8.out)
        have Nw_8 := hid (Nw_7.out.step hb_8.out)
        have B_8 := hid (B_7.out.trans (hb_8.out.mono (by omega)))
        have z_8 : u7.heap.size ≤ u8.heap.size := hb_8.out.size
        clear Kv_7 Kg_7 Kw_7 Nv_7 Ng_7 Nw_7 B_7
        clear hb_8
        clear hb
        go_wp2
        go_ret
        exact ⟨rfl, B_8.out⟩
      | true =>
        obtain ⟨qg0, qg1, -, -⟩ := Kg_6.out.two
        obtain ⟨qw0, qw1, -, -⟩ := Kw_6.out.two
        go_wp2_with fail
        refine (sameView_same on _ Ng_6.out.at_ Nw_6.out.at_ (by omega)).mono ?_
        rintro e u7 ⟨rfl, hb⟩
        clear qg0 qg1 qw0 qw1
        have hb_7 := hid hb
        have Kv_7 := hid (Kv_6.out.step hb_7.out)
        have Kg_7 := hid (Kg_6.out.step hb_7.out)
        have Kw_7 := hid (Kw_6.out.step hb_7.out)
        have Nv_7 := hid (Nv_6.out.step hb_7.out)
        have Ng_7 := hid (Ng_6.out.step hb_7.out)
        have Nw_7 := hid (Nw_6.out.step hb_7.out)
        have B_7 := hid (B_6.out.trans (hb_7.out.mono (by omega)))
        have z_7 : u6.heap.size ≤ u7.heap.size := hb_7.out.size
        clear Kv_6 Kg_6 Kw_6 Nv_6 Ng_6 Nw_6 B_6
        clear hb_7
        clear hb
        clear Nw_7
        clear Kw_7
        obtain ⟨hv0, hhx, hv1, hon, hoz⟩ := joinR_ok hR.out
        obtain ⟨⟨hn0, hn1⟩, hp0, hMv⟩ := vwB_true.1 hv0
        have hlen : oz.length = zs.length + 1 := by rw [hoz]; exact ins_len _ _
        have hv1 := hid (show vwB on oz = true by rw [hon, hoz]; exact hv1)
        clear hhx hMv hoz hon
        obtain ⟨p, hp⟩ : ∃ p : Nat, zs.length / 2 = p := ⟨_, rfl⟩
        obtain ⟨q, hq⟩ : ∃ q : Nat, oz.length / 2 = q := ⟨_, rfl⟩
        have hpi : (zs.length : Int) / 2 = (p : Int) := by omega
        have hqi : (oz.length : Int) / 2 = (q : Int) := by omega
        obtain ⟨m, hm⟩ : ∃ m : Nat, oz.length - (q + 1) = m := ⟨_, rfl⟩
        have hmi : IntKind.i64.wrap ((oz.length : Int) - ((q : Int) + 1)) = (m : Int) := by rw [IntWalk.i64_in _ (by omega)]; omega
        have hw1 : IntKind.i64.wrap ((p : Int) + 1) = (p : Int) + 1 := IntWalk.i64_in _ (by omega)
        have hw2 : IntKind.i64.wrap ((q : Int) + 1) = (q : Int) + 1 := IntWalk.i64_in _ (by omega)
        have hw3 : IntKind.i64.wrap ((zs.length : Int) + 1) = (zs.length : Int) + 1 := IntWalk.i64_in _ (by omega)
        have hw4 : IntKind.i64.wrap (p : Int) = (p : Int) := IntWalk.i64_in _ (by omega)
        have hw5 : IntKind.i64.wrap (q : Int) = (q : Int) := IntWalk.i64_in _ (by omega)
        have hmn : min (zs.length : Int) ((p : Int) + 1) = ((p + 1 : Nat) : Int) := by omega
        have hLo := hid (show majR n zs (zs.take (p + 1)) = true by rw [← hp]; exact low_maj hv0)
        have hHi := hid (show majR on oz (oz.drop m) = true by rw [← hm, ← hq]; exact high_maj hv1.out)
        have hall := hid (fun h => next_not (k := p + 1) (m := m) hR.out (by rw [hp]) (by rw [hq]; exact hm.symm) h)
        clear hv0
        have i0 : ¬ ((zs.length : Int) + 1 = 0) := by omega
        have i1 : p + 1 ≤ zs.length := by omega
        have i2 : m ≤ oz.length := by omega
        have hcv := Nv_7.out.capY
        have hcg := Ng_7.out.capY
        have i3 : ((p + 1 : Nat) : Int) ≤ (c : Int) := by omega
        have i4 : (0 : Int) ≤ ((p + 1 : Nat) : Int) := by omega
        have i5 : (m : Int) ≤ (oz.length : Int) := by omega
        have i6 : (0 : Int) ≤ (m : Int) := by omega
        obtain ⟨ad, rfl, -, -⟩ := (Ng_7.out.at_).2 (by omega)
        have hne : ¬ cg = m := by omega
        have rl := hid (RdI.takeV Nv_7.out.at_ i1)
        have rh := hid (show RdI u7 u7.heap.size (some (ad.add m)) (oz.length - m) (oz.drop m) by have := RdI.dropV Ng_7.out.at_ i2 hcg.1; rwa [if_neg hne] at this)
        have hlo : oz.length - m < 1099511627776 := by omega
        replace hp := hid hp
        replace hq := hid hq
        replace hm := hid hm
        replace hlen := hid hlen
        replace hcv := hid hcv
        replace hcg := hid hcg
        obtain ⟨qg0, qg1, -, -⟩ := Kg_7.out.two
        obtain ⟨qv0, qv1, -, -⟩ := Kv_7.out.two
        go_wp2
        go_loop [14] (fun i => ∃ k : Nat, k ≤ p + 1 ∧ i = .int .i64 k ∧ Hid (∀ j, j < k → hasB (oz.drop m) ((zs.take (p + 1)).getD j 0) = false)) (fun i => p + 1 - (intOf i).toNat)
        case atStart => exact ⟨0, Nat.zero_le _, rfl, hid (fun j h => by omega)⟩
        case round =>
          obtain ⟨k, hk, rfl, hno⟩ := hrel
          by_cases hlt : k < p + 1
          · obtain ⟨ae, z, rfl, hz, hc0⟩ := rl.out.at' hlt
            have hz := hid hz
            obtain ⟨r, hr⟩ : ∃ r, hasB (oz.drop m) z = r := ⟨_, rfl⟩
            replace hr := hid hr
            have k1 : (k : Int) < ((p + 1 : Nat) : Int) := by omega
            have k0 : (0 : Int) ≤ (k : Int) := by omega
            go_wp2_with fail
            refine (hasInt_asV hr.out _ rh.out hlo).mono ?_
            rintro e wz ⟨rfl, rfl⟩
            cases r with
            | false =>
              go_wp2
              go_round
              case rel => exact ⟨k + 1, by omega, by go_num, hid (fun j hj => by
                  by_cases e : j = k
                  · subst e; rw [hz.out]; exact hr.out
                  · exact hno.out j (by omega))⟩
              case measure => simp [intOf]; omega
            | true =>
              go_wp2_with fail
              refine (ViewMajority_impl n _ Nv_7.out.at_ rl.out hcv.out (by omega) (by omega) (Sn.below sC.out B_7.out) hLo.out).mono ?_
              rintro e u8 ⟨rfl, hb⟩
              have y0 := cell_belowY hb qg0
              have y1 := cell_belowY hb qg1
              have f1 := hid ((Reads.below Ng_7.out.at_ hb).more hb.size)
              have f2 := hid ((Reads.below rh.out hb).more hb.size)
              have hB := hid (B_7.out.trans (hb.mono (by omega)))
              clear hb qg0 qg1 qv0 qv1
              go_wp2_with fail
              refine (ViewMajority_impl on _ f1.out f2.out hcg.out (by omega) hlo (Sn.below sC.out hB.out) hHi.out).mono ?_
              rintro e u9 ⟨rfl, hb⟩
              have hB9 := hid (hB.out.trans (hb.mono (by have := hB.out.size; omega)))
              clear hb
              go_wp2
              go_ret
              exact ⟨rfl, hB9.out⟩
          · exact (hall.out (fun j hj => hno.out j (by omega))).elim
end Go.Proofs.YtppdfgifnmfioaaDoor
