/-
  The walk of the law FnTxnBack. No condition.
-/
import Derived.Test.YteagmkhpfmiaiaaSwM
namespace Go.Proofs.Yteagmkhpfmiaiaa
open Go.RowKit
set_option linter.unusedVariables false
set_option linter.unusedSimpArgs false

set_option maxRecDepth 100000 in
set_option maxHeartbeats 16000000 in
theorem lawTxnBack {a : Option Addr} {len cap : Nat} {cs : List Int} (w : World) (h : RowIs .u8 w a len cap cs) :
    Calls Try.prog 14 #[.slice a len cap] w fun e w' => e = .returned (.bool true) ∧ Below w.heap.size w w' := by
  have h' := hid h
  clear h
  by_cases hbig : len ≤ 1048576
  · go_enter Try.func14, Try.ntmps14
    go_wp2_with fail
    refine (DrawTxnApply_any w h'.out).mono ?_
    rintro e w1 ⟨A, A1, A2, c, c1, c2, n, n1, n2, zs, t, rfl, hs1, hn, hin, hr1, hl1, hl2, hb⟩
    have hB1 := hid hb
    have hz1 := hb.size
    replace hs1 := hid hs1
    replace hr1 := hid hr1
    replace hin := hid hin
    clear hb
    go_upto_region 4 with (fail)
    obtain ⟨m, hm⟩ : ∃ m, t.need = m := ⟨_, rfl⟩
    rw [hm]
    replace hm := hid hm
    obtain ⟨u0, hu0⟩ : ∃ W, w1.alloc (.cells #[.slice A1 n1 c1, .int .i64 m, .slice A2 n2 c2] 26) = W := ⟨_, rfl⟩
    rw [hu0]
    have hbb : Below w1.heap.size w1 u0 := by rw [← hu0]; exact below1 _ _
    have hK2 := hid (show Cs u0 w1.heap.size 26 #[.slice A1 n1 c1, .int .i64 m, .slice A2 n2 c2] by rw [← hu0]; exact Cs.new _ _ _)
    have hB2 := hid (hB1.out.trans (hbb.mono hz1))
    have hs2 := hid (hs1.out.stp hbb)
    have hr2 := hid (hr1.out.step hbb)
    obtain ⟨xb, hxb⟩ : ∃ b, w1.heap.size = b := ⟨_, rfl⟩
    rw [hxb] at hK2
    try rw [hxb]
    clear hbb hu0 hxb hz1 hB1 hr1 hs1
    obtain ⟨O, hO⟩ : ∃ O, appS zs t = O := ⟨_, rfl⟩
    obtain ⟨q, hq⟩ : ∃ q, appB zs t = q := ⟨_, rfl⟩
    obtain ⟨k, hk⟩ : ∃ k, O.length = k := ⟨_, rfl⟩
    have hk15 : k ≤ 15 := by rw [← hk, ← hO]; exact app_len
    replace hO := hid hO
    replace hq := hid hq
    replace hk := hid hk
    obtain ⟨d0, d1, d2⟩ := hK2.out.tri
    go_wp2_with fail
    refine (TxnApply_iasL hO.out hq.out hk.out hm.out _ hs2.out (by omega) hr2.out).mono ?_
    rintro e w3 ⟨A5, c5, rfl, hR3, hb3⟩
    have hK3 := hid (hK2.out.step hb3)
    have hB3 := hid (hB2.out.trans (hb3.mono hB2.out.size))
    have hs3 := hid (hs2.out.stp hb3)
    have hr3 := hid (hr2.out.step hb3)
    replace hR3 := hid hR3
    clear hb3 hK2 hB2 hr2 hs2 d0 d1 d2
    obtain ⟨d0, d1, d2⟩ := hK3.out.tri
    go_wp2_with fail
    refine (TxnApply_asL hO.out hq.out hk.out hm.out _ hs3.out (by omega) hr3.out).mono ?_
    rintro e w4 ⟨A6, c6, rfl, hW4, hb4⟩
    have hK4 := hid (hK3.out.step hb4)
    have hB4 := hid (hB3.out.trans (hb4.mono hB3.out.size))
    have hs4 := hid (hs3.out.stp hb4)
    have hr4 := hid (hr3.out.step hb4)
    have hR4 := hid (hR3.out.stp hb4)
    replace hW4 := hid hW4
    clear hb4 hK3 hB3 hr3 hs3 hR3 d0 d1 d2
    obtain ⟨d0, d1, d2⟩ := hK4.out.tri
    go_wp2_with fail
    refine (sameInts_eq rfl _ hR4.out hW4.out (by omega) (by omega)).mono ?_
    rintro e w5 ⟨rfl, hb5⟩
    have hK5 := hid (hK4.out.step hb5)
    have hB5 := hid (hB4.out.trans (hb5.mono hB4.out.size))
    have hs5 := hid (hs4.out.stp hb5)
    have hr5 := hid (hr4.out.step hb5)
    have hR5 := hid (hR4.out.stp hb5)
    have hW5 := hid (hW4.out.stp hb5)
    clear hb5 hK4 hB4 hr4 hs4 hR4 hW4 d0 d1 d2
    obtain ⟨d0, d1, d2⟩ := hK5.out.tri
    cases q with
    | false =>
      go_wp2_with fail
      refine (sameInts_eq rfl _ hR5.out hW5.out (by omega) (by omega)).mono ?_
      rintro e w6 ⟨rfl, hb6⟩
      have hB6 := hid (hB5.out.trans (hb6.mono hB5.out.size))
      clear hb6
      go_wp2
      go_ret
      exact ⟨rfl, hB6.out⟩
    | true =>
      obtain ⟨hv, ht, -, -⟩ := app_yes hq.out
      have hz15 := hid (vst_len hv)
      have ht' := hid ht
      have hlp := hid hr5.out.p.len
      have n15 := hid (show n2 ≤ 15 by have := ht.plen; have := hr5.out.p.len; omega)
      have hO15 := hid (show k ≤ 15 from hk15)
      clear hv ht
      go_upto_region 9 with (fail)
      obtain ⟨v0, hv0⟩ : ∃ W, w5.alloc (.cells #[.slice none 0 0, .int .i64 0, .slice none 0 0] 26) = W := ⟨_, rfl⟩
      rw [hv0]
      have hU0 := hid (show Cs v0 w5.heap.size 26 #[.slice none 0 0, .int .i64 0, .slice none 0 0] by rw [← hv0]; exact Cs.new _ _ _)
      have hV0 := hid (show Below w5.heap.size w5 v0 by rw [← hv0]; exact below1 _ _)
      obtain ⟨ub, hub⟩ : ∃ b, w5.heap.size = b := ⟨_, rfl⟩
      have hub' := hid hub
      rw [hub] at hU0 hV0
      try rw [hub]
      clear hv0 hub d0 d1 d2
      go_wp2
      go_loopw [10] (fun i wr => ∃ (j : Nat) (Pv : Value), j ≤ n2 ∧ i = .int .i64 j ∧ Hid (Cs wr ub 26 #[.slice none 0 0, .int .i64 0, Pv]) ∧ Hid (OwP wr (ub + 1) Pv (negP (t.puts.take j))) ∧ Hid (Below ub w5 wr)) (fun i _ => n2 - (intOf i).toNat)
      case atStart => exact ⟨0, _, Nat.zero_le _, rfl, hU0, hid ⟨rfl, .inl ⟨rfl, rfl⟩⟩, hV0⟩
      case round =>
        obtain ⟨j, Pv, hj, rfl, hU, hP, hV⟩ := hrel
        have hVw := hid (show Below w5.heap.size w5 wr by rw [hub'.out]; exact hV.out)
        have hKr := hid (hK5.out.step hVw.out)
        have hrr := hid (hr5.out.step hVw.out)
        have hBr := hid (hB5.out.trans (hVw.out.mono hB5.out.size))
        have hsr := hid (hs5.out.stp hVw.out)
        have hRr := hid (hR5.out.stp hVw.out)
        obtain ⟨A9, c9, rfl, -⟩ := hP.out.form
        clear hU0 hV0
        by_cases hlt : j < n2
        · have hln : (negP (t.puts.take j)).length = j := by rw [negP_len, List.length_take, hlp.out]; omega
          obtain ⟨Y0, hY0⟩ : ∃ Y, negP (t.puts.take j) = Y := ⟨_, rfl⟩
          rw [hY0] at hP hln hU
          try rw [hY0]
          rw [hln] at hP hU
          try rw [hln]
          replace hln := hid hln
          replace hY0 := hid hY0
          obtain ⟨b, off, x, y, rfl, hx, hbl, e0, e1⟩ := hrr.out.p.at_ hlt
          have hy := ht'.out.adds _ (List.mem_of_getElem? hx.out)
          simp only at hy
          have hw2 : IntKind.i64.wrap (-y) = -y := IntWalk.i64_in _ (by omega)
          have j0 : (0 : Int) ≤ (j : Int) := by omega
          have j1 : (j : Int) < (n2 : Int) := by omega
          have hL := hid (below1 wr (.cells #[.int .i64 x, .int .i64 (-y)] 33))
          have hUL := hid (hU.out.step hL.out)
          have hPL := hid (hP.out.below hL.out)
          have hCL : Hid (Cs (wr.alloc (.cells #[.int .i64 x, .int .i64 (-y)] 33)) wr.heap.size 33 #[.int .i64 x, .int .i64 (-y)]) := hid (Cs.new _ _ _)
          have hzL := hid (show ub + 1 ≤ (wr.alloc (.cells #[.int .i64 x, .int .i64 (-y)] 33)).heap.size by have := hUL.out.lt; omega)
          have hnL : Hid (Y0.length + 1 < 1099511627776) := hid (by have := n15.out; rw [hln.out]; omega)
          have hVL := hid (hV.out.trans (hL.out.mono (Nat.le_of_lt hU.out.lt)))
          obtain ⟨u0, u1, u2⟩ := hU.out.tri
          obtain ⟨v0', v1', v2'⟩ := hUL.out.tri
          obtain ⟨d0, d1, d2⟩ := hKr.out.tri
          have eL0 := (hL.out.cell (p := ⟨b, off + j * 2, none⟩) hbl).trans e0
          have eL1 := (hL.out.cell (p := ⟨b, off + j * 2 + 1, none⟩) hbl).trans e1
          obtain ⟨l0, l1, l2⟩ := (hKr.out.step hL.out).tri
          have hPd : Hid (OwP (wr.alloc (.cells #[.int .i64 x, .int .i64 (-y)] 33)).drew (ub + 1) (.slice A9 j c9) Y0) := hid (by exact hPL.out)
          have hCd : Hid (RdP (wr.alloc (.cells #[.int .i64 x, .int .i64 (-y)] 33)).drew (some ⟨wr.heap.size, 0, none⟩) 1 [(x, -y)]) := hid (by exact RdP.of_cs hCL.out)
          have hUd : Hid (Cs (wr.alloc (.cells #[.int .i64 x, .int .i64 (-y)] 33)).drew ub 26 #[.slice none 0 0, .int .i64 0, .slice A9 j c9]) := hid (by exact hUL.out)
          have hzd : Hid (ub + 1 ≤ (wr.alloc (.cells #[.int .i64 x, .int .i64 (-y)] 33)).drew.heap.size) := hid (by exact hzL.out)
          have hVd := hid (hVL.out.trans ((Below.refl ub (wr.alloc (.cells #[.int .i64 x, .int .i64 (-y)] 33))).drew))
          clear hPL hCL hUL hzL hVL
          go_wp2_with fail
          go_region_law (((refine step_appPv rfl und_put (.tmp 63) (.tmp 78) rfl (B := ub + 1) (v := .slice A9 j c9) (zs := Y0) (ys := [(x, -y)]) (m := 1) rfl rfl hPd.out hCd.out hzd.out hnL.out ?_); intro vb wb hob hgb hvb; obtain ⟨Y2, hY2⟩ : ∃ Y, Y0 ++ [(x, -y)] = Y := ⟨_, rfl⟩; rw [hY2] at hob; obtain ⟨A8, c8, rfl, -⟩ := hob.form; have hcb := hid (grown_cs hUd.out hgb (fun e => cs_type hUd.out hPd.out (by decide) e)); have hVb := hid (hVd.out.grown hgb (by (have := hzd.out; omega)) (fun q e => by (have := (hPd.out.lt q e).1; omega))); replace hob := hid hob; replace hY2 := hid hY2; obtain ⟨g0, g1, g2⟩ := hcb.out.tri; obtain ⟨f0, f1, f2⟩ := hcb.out.triF; clear hgb hvb))
          all_goals
            have hcs : Hid (Cs (wb.setCell ⟨ub, 2, none⟩ (.slice A8 Y2.length c8)) ub 26 #[.slice none 0 0, .int .i64 0, .slice A8 Y2.length c8]) := hid (by exact hcb.out.set 2 (.slice A8 Y2.length c8))
            have hPb := hid (hob.out.setLow (p := ⟨ub, 2, none⟩) (by simp) (.slice A8 Y2.length c8))
            have hVs := hid (hVb.out.setCell (p := ⟨ub, 2, none⟩) (Nat.le_refl _) (.slice A8 Y2.length c8))
            have eY := hid (show negP (t.puts.take (j + 1)) = Y2 by rw [negP_snoc hx.out, hY0.out]; exact hY2.out)
            clear g0 g1 g2 l0 l1 l2 d0 d1 d2 u0 u1 u2 v0' v1' v2' e0 e1 eL0 eL1 hcb hVb hob
            go_wp2
            go_roundw
            case rel => exact ⟨j + 1, _, by omega, by go_num, hcs, by rw [eY.out]; exact hPb, hVs⟩
            case measure => simp [intOf]; omega
        · obtain rfl : j = n2 := by omega
          have hall : t.puts.take j = t.puts := List.take_of_length_le (by rw [hlp.out]; omega)
          obtain ⟨Y, hY⟩ : ∃ Y, negP t.puts = Y := ⟨_, rfl⟩
          have hYl : Y.length = j := by rw [← hY, negP_len, hlp.out]
          rw [hall, hY] at hP hU
          try rw [hall, hY]
          rw [hYl] at hP hU
          try rw [hYl]
          have hPr : Hid (RdP wr A9 j Y) := hid (by
            obtain ⟨A', c', e, hr, -⟩ := hP.out.form
            rw [hYl] at e hr
            injection e with e1 e2 e3
            subst e1
            exact hr)
          replace hYl := hid hYl
          replace hY := hid hY
          have hb0 := fun (h : 0 < j) => app_back hq.out (show 0 < t.puts.length by rw [hlp.out]; exact h)
          rw [hO.out, hY.out] at hb0
          replace hb0 := hid hb0
          obtain ⟨O2, hO2⟩ : ∃ O2, appS O ⟨[], 0, Y⟩ = O2 := ⟨_, rfl⟩
          obtain ⟨q2, hq2⟩ : ∃ q2, appB O ⟨[], 0, Y⟩ = q2 := ⟨_, rfl⟩
          obtain ⟨k2, hk2⟩ : ∃ k2, O2.length = k2 := ⟨_, rfl⟩
          have hk215 : k2 ≤ 15 := by rw [← hk2, ← hO2]; exact app_len
          replace hO2 := hid hO2
          replace hq2 := hid hq2
          replace hk2 := hid hk2
          have n15' := n15.out
          obtain ⟨u0, u1, u2⟩ := hU.out.tri
          obtain ⟨d0, d1, d2⟩ := hKr.out.tri
          clear hall hP hV hVw
          go_wp2_with fail
          refine (TxnApply_iasL (t := ⟨[], 0, Y⟩) hO2.out hq2.out hk2.out rfl _ hRr.out (by omega) ⟨Reads.none_, hPr.out, by omega, by omega⟩).mono ?_
          rintro e w7 ⟨A7, c7, rfl, hX7, hb7⟩
          have hK7 := hid (hKr.out.step hb7)
          have hB7 := hid (hBr.out.trans (hb7.mono hBr.out.size))
          have hs7 := hid (hsr.out.stp hb7)
          replace hX7 := hid hX7
          clear hb7 hKr hBr hsr u0 u1 u2 d0 d1 d2 hU hPr hrr hRr
          obtain ⟨d0, d1, d2⟩ := hK7.out.tri
          by_cases hj0 : j = 0
          · subst hj0
            go_wp2
            go_ret
            exact ⟨rfl, hB7.out⟩
          · have hj1 : ((j : Int) == 0) = false := by simp; omega
            obtain ⟨e1, e2⟩ := hb0.out (by omega)
            rw [hO2.out] at e1
            rw [hq2.out] at e2
            subst e2
            replace e1 := hid e1
            have hn15' := hn
            go_wp2_with fail
            refine (sameInts_eq e1.out _ hX7.out hs7.out (by omega) (by omega)).mono ?_
            rintro e w8 ⟨rfl, hb8⟩
            have hB8 := hid (hB7.out.trans (hb8.mono hB7.out.size))
            clear hb8
            go_wp2
            go_ret
            exact ⟨rfl, hB8.out⟩
  · have hbig' : (1048576 : Int) < (len : Int) := by omega
    go_enter Try.func14, Try.ntmps14
    go_wp2
    go_ret
    exact ⟨rfl, Below.refl _ _⟩
end Go.Proofs.Yteagmkhpfmiaiaa
