/-
  The walk of the law FnFinalTwice: it returns true, and nothing that was there is written. No condition.
-/
import Derived.Test.YthfbchnhjhfpaaaGnN
import Derived.Test.YthfbchnhjhfpaaaGmYi
import Derived.Deep.CutBlock
import Derived.Deep.RegionLaw
import Derived.Deep.RegionHeld3
namespace Go.Proofs.Ythfbchnhjhfpaaa
open Go.RowKit
set_option linter.unusedVariables false
set_option linter.unusedSimpArgs false


set_option maxRecDepth 100000 in
set_option maxHeartbeats 16000000 in
theorem lawFinalTwice_at {a : Option Addr} {len cap : Nat} {zs : List Int} {a2 : Option Addr} {len2 cap2 : Nat} {ys : List Int} (w u0 : World) (h : RowIs .u8 u0 a len cap zs) (g : RowIs .u8 w a2 len2 cap2 ys) (hB0 : Below w.heap.size w u0) (z_0 : w.heap.size ≤ u0.heap.size) :
    Calls Try.prog 9 #[.slice a len cap, .slice a2 len2 cap2] u0 fun e w' => e = .returned (.bool true) ∧ Below w.heap.size w w' := by
  have hl := h.len_leN
  have B_0 := hid hB0
  have h' := hid h
  clear hB0 h
  by_cases hbig : 1048576 < len
  · go_enter Try.func9, Try.ntmps9
    go_wp2
    go_ret
    exact ⟨rfl, B_0.out⟩
  · have gl := g.len_leN
    have g' := hid g
    clear g
    by_cases hbig2 : 1048576 < len2
    · go_enter Try.func9, Try.ntmps9
      go_wp2
      go_ret
      exact ⟨rfl, B_0.out⟩
    · go_enter Try.func9, Try.ntmps9
      go_wp2_with fail
      refine (DrawGroupFinal_any _ h'.out).mono ?_
      rintro e u1 ⟨i, k, A0, c0, E0, d0, P, D, msg, st, sg, rfl, ho, hl, hb⟩
      have hb_1 := hid hb
      have B_1 := hid (B_0.out.trans (hb_1.out.mono (by omega)))
      have z_1 : u0.heap.size ≤ u1.heap.size := hb_1.out.size
      clear  B_0
      clear hb_1
      clear hb
      have hP13 : P.length ≤ 13 := by omega
      have hD13 : D.length ≤ 13 := by omega
      clear hl
      have LG_1 := hid (Lg.of ho)
      clear ho
      go_upto_region 4 with (fail)
      obtain ⟨u2, hu⟩ : ∃ W, ((u1.alloc (.cells #[.int .i64 i, .int .i64 k, .slice A0 P.length c0, .slice E0 D.length d0] 26)).alloc (.cells #[.int .i64 st, .int .i64 sg] 38)) = W := ⟨_, rfl⟩
      rw [hu]
      have hb : Below u1.heap.size u1 u2 := by rw [← hu]; exact below2 _ _ _
      have hcG : Cs u2 (u1.heap.size) 26 #[.int .i64 i, .int .i64 k, .slice A0 P.length c0, .slice E0 D.length d0] := by rw [← hu]; exact (Cs.new _ _ _).alloc _
      have hcS : Cs u2 (u1.heap.size + 1) 38 #[.int .i64 st, .int .i64 sg] := by rw [← hu]; exact Cs.new' _ _ _ (by simp)
      clear hu
      have hb_2 := hid hb
      have LG_2 := hid (LG_1.out.step hb_2.out)
      have B_2 := hid (B_1.out.trans (hb_2.out.mono (by omega)))
      have z_2 : u1.heap.size ≤ u2.heap.size := hb_2.out.size
      clear LG_1 B_1
      clear hb_2
      clear hb
      have KG_2 := hid hcG
      have yG_2 : u1.heap.size < u2.heap.size := hcG.lt
      clear hcG
      have KS_2 := hid hcS
      have yS_2 : u1.heap.size + 1 < u2.heap.size := hcS.lt
      clear hcS
      obtain ⟨id', ck', P', D', T, b', hR⟩ : ∃ id' ck' P' D' T b', fiR ⟨i, k, P, D⟩ msg (st, sg) = (⟨id', ck', P', D'⟩, T, b') := ⟨_, _, _, _, _, _, rfl⟩
      have hPl : P'.length ≤ P.length := (fiR_lenN hR).1
      have hDl : D'.length ≤ D.length + P.length := (fiR_lenN hR).2.1
      have hTl : T.length ≤ P.length := (fiR_lenN hR).2.2
      replace hR := hid hR
      obtain ⟨qG0, qG1, qG2, qG3⟩ := KG_2.out.four
      obtain ⟨qS0, qS1, -, -⟩ := KS_2.out.two
      go_wp2_with fail
      refine (GroupFinal_impl hR.out _ (LG_2.out.ow.rdg (by omega) (by omega)) (by omega)).mono ?_
      rintro e u3 ⟨Ag, cg, Bg, dg, Cg, eg, rfl, og, ig, hb⟩
      clear qG0 qG1 qG2 qG3 qS0 qS1
      have hb_3 := hid hb
      have KG_3 := hid (KG_2.out.step hb_3.out)
      have KS_3 := hid (KS_2.out.step hb_3.out)
      have LG_3 := hid (LG_2.out.step hb_3.out)
      have B_3 := hid (B_2.out.trans (hb_3.out.mono (by omega)))
      have z_3 : u2.heap.size ≤ u3.heap.size := hb_3.out.size
      clear KG_2 KS_2 LG_2 B_2
      clear hb_3
      clear hb
      have Lo_3 := hid (Lg.of og)
      clear og
      have No_3 := hid (Lv.ofI ig)
      clear ig
      go_upto_region 5 with (fail)
      obtain ⟨u4, hu⟩ : ∃ W, (u3.alloc (.cells #[.int .i64 id', .int .i64 ck', .slice Ag P'.length cg, .slice Bg D'.length dg] 26)) = W := ⟨_, rfl⟩
      rw [hu]
      have hb : Below u3.heap.size u3 u4 := by rw [← hu]; exact below1 _ _
      have hco : Cs u4 (u3.heap.size) 26 #[.int .i64 id', .int .i64 ck', .slice Ag P'.length cg, .slice Bg D'.length dg] := by rw [← hu]; exact Cs.new _ _ _
      clear hu
      have hb_4 := hid hb
      have KG_4 := hid (KG_3.out.step hb_4.out)
      have KS_4 := hid (KS_3.out.step hb_4.out)
      have LG_4 := hid (LG_3.out.step hb_4.out)
      have Lo_4 := hid (Lo_3.out.step hb_4.out)
      have No_4 := hid (No_3.out.step hb_4.out)
      have B_4 := hid (B_3.out.trans (hb_4.out.mono (by omega)))
      have z_4 : u3.heap.size ≤ u4.heap.size := hb_4.out.size
      clear KG_3 KS_3 LG_3 Lo_3 No_3 B_3
      clear hb_4
      clear hb
      have Ko_4 := hid hco
      have yo_4 : u3.heap.size < u4.heap.size := hco.lt
      clear hco
      obtain ⟨qG0, qG1, qG2, qG3⟩ := KG_4.out.four
      obtain ⟨qS0, qS1, -, -⟩ := KS_4.out.two
      go_wp2_with fail
      refine (GroupFinal_spec hR.out _ (LG_4.out.ow.rdg (by omega) (by omega)) (by omega)).mono ?_
      rintro e u5 ⟨Aw, cw, Bw, dw, Cw, ew, rfl, ow, iw, hb⟩
      clear qG0 qG1 qG2 qG3 qS0 qS1
      have hb_5 := hid hb
      have KG_5 := hid (KG_4.out.step hb_5.out)
      have KS_5 := hid (KS_4.out.step hb_5.out)
      have Ko_5 := hid (Ko_4.out.step hb_5.out)
      have LG_5 := hid (LG_4.out.step hb_5.out)
      have Lo_5 := hid (Lo_4.out.step hb_5.out)
      have No_5 := hid (No_4.out.step hb_5.out)
      have B_5 := hid (B_4.out.trans (hb_5.out.mono (by omega)))
      have z_5 : u4.heap.size ≤ u5.heap.size := hb_5.out.size
      clear KG_4 KS_4 Ko_4 LG_4 Lo_4 No_4 B_4
      clear hb_5
      clear hb
      have Lw_5 := hid (Lg.of ow)
      clear ow
      have Nw_5 := hid (Lv.ofI iw)
      clear iw
      go_upto_region 6 with (fail)
      obtain ⟨u6, hu⟩ : ∃ W, (u5.alloc (.cells #[.int .i64 id', .int .i64 ck', .slice Aw P'.length cw, .slice Bw D'.length dw] 26)) = W := ⟨_, rfl⟩
      rw [hu]
      have hb : Below u5.heap.size u5 u6 := by rw [← hu]; exact below1 _ _
      have hcw : Cs u6 (u5.heap.size) 26 #[.int .i64 id', .int .i64 ck', .slice Aw P'.length cw, .slice Bw D'.length dw] := by rw [← hu]; exact Cs.new _ _ _
      clear hu
      have hb_6 := hid hb
      have KG_6 := hid (KG_5.out.step hb_6.out)
      have KS_6 := hid (KS_5.out.step hb_6.out)
      have Ko_6 := hid (Ko_5.out.step hb_6.out)
      have LG_6 := hid (LG_5.out.step hb_6.out)
      have Lo_6 := hid (Lo_5.out.step hb_6.out)
      have Lw_6 := hid (Lw_5.out.step hb_6.out)
      have No_6 := hid (No_5.out.step hb_6.out)
      have Nw_6 := hid (Nw_5.out.step hb_6.out)
      have B_6 := hid (B_5.out.trans (hb_6.out.mono (by omega)))
      have z_6 : u5.heap.size ≤ u6.heap.size := hb_6.out.size
      clear KG_5 KS_5 Ko_5 LG_5 Lo_5 Lw_5 No_5 Nw_5 B_5
      clear hb_6
      clear hb
      have Kw_6 := hid hcw
      have yw_6 : u5.heap.size < u6.heap.size := hcw.lt
      clear hcw
      cases b' with
      | false =>
        go_wp2_with fail
        refine (sameInts_any _ No_6.out.at_ Nw_6.out.at_ (by omega) (by omega)).mono ?_
        rw [sameB_selfN]
        rintro e u7 ⟨rfl, hq⟩
        have hb_7 := hid (hq.below u6.heap.size)
        have KG_7 := hid (KG_6.out.step hb_7.out)
        have KS_7 := hid (KS_6.out.step hb_7.out)
        have Ko_7 := hid (Ko_6.out.step hb_7.out)
        have Kw_7 := hid (Kw_6.out.step hb_7.out)
        have LG_7 := hid (LG_6.out.step hb_7.out)
        have Lo_7 := hid (Lo_6.out.step hb_7.out)
        have Lw_7 := hid (Lw_6.out.step hb_7.out)
        have No_7 := hid (No_6.out.step hb_7.out)
        have Nw_7 := hid (Nw_6.out.step hb_7.out)
        have B_7 := hid (B_6.out.trans (hb_7.out.mono (by omega)))
        have z_7 : u6.heap.size ≤ u7.heap.size := hb_7.out.size
        clear KG_6 KS_6 Ko_6 Kw_6 LG_6 Lo_6 Lw_6 No_6 Nw_6 B_6
        clear hb_7
        clear hq
        obtain ⟨qo0, qo1, qo2, qo3⟩ := Ko_7.out.four
        obtain ⟨qw0, qw1, qw2, qw3⟩ := Kw_7.out.four
        go_wp2_with fail
        refine (sameGroup_same id' ck' _ Lo_7.out.r1 Lo_7.out.r2 Lw_7.out.r1 Lw_7.out.r2 (by omega) (by omega)).mono ?_
        rintro e u8 ⟨rfl, hb⟩
        clear qo0 qo1 qo2 qo3 qw0 qw1 qw2 qw3
        have hb_8 := hid hb
        have KG_8 := hid (KG_7.out.step hb_8.out)
        have KS_8 := hid (KS_7.out.step hb_8.out)
        have Ko_8 := hid (Ko_7.out.step hb_8.out)
        have Kw_8 := hid (Kw_7.out.step hb_8.out)
        have LG_8 := hid (LG_7.out.step hb_8.out)
        have Lo_8 := hid (Lo_7.out.step hb_8.out)
        have Lw_8 := hid (Lw_7.out.step hb_8.out)
        have No_8 := hid (No_7.out.step hb_8.out)
        have Nw_8 := hid (Nw_7.out.step hb_8.out)
        have B_8 := hid (B_7.out.trans (hb_8.out.mono (by omega)))
        have z_8 : u7.heap.size ≤ u8.heap.size := hb_8.out.size
        clear KG_7 KS_7 Ko_7 Kw_7 LG_7 Lo_7 Lw_7 No_7 Nw_7 B_7
        clear hb_8
        clear hb
        go_wp2_with fail
        refine (sameInts_any _ No_8.out.at_ Nw_8.out.at_ (by omega) (by omega)).mono ?_
        rw [sameB_selfN]
        rintro e u9 ⟨rfl, hq⟩
        have hb_9 := hid (hq.below u8.heap.size)
        have KG_9 := hid (KG_8.out.step hb_9.out)
        have KS_9 := hid (KS_8.out.step hb_9.out)
        have Ko_9 := hid (Ko_8.out.step hb_9.out)
        have Kw_9 := hid (Kw_8.out.step hb_9.out)
        have LG_9 := hid (LG_8.out.step hb_9.out)
        have Lo_9 := hid (Lo_8.out.step hb_9.out)
        have Lw_9 := hid (Lw_8.out.step hb_9.out)
        have No_9 := hid (No_8.out.step hb_9.out)
        have Nw_9 := hid (Nw_8.out.step hb_9.out)
        have B_9 := hid (B_8.out.trans (hb_9.out.mono (by omega)))
        have z_9 : u8.heap.size ≤ u9.heap.size := hb_9.out.size
        clear KG_8 KS_8 Ko_8 Kw_8 LG_8 Lo_8 Lw_8 No_8 Nw_8 B_8
        clear hb_9
        clear hq
        obtain ⟨qo0, qo1, qo2, qo3⟩ := Ko_9.out.four
        obtain ⟨qw0, qw1, qw2, qw3⟩ := Kw_9.out.four
        go_wp2_with fail
        refine (sameGroup_same id' ck' _ Lo_9.out.r1 Lo_9.out.r2 Lw_9.out.r1 Lw_9.out.r2 (by omega) (by omega)).mono ?_
        rintro e u10 ⟨rfl, hb⟩
        clear qo0 qo1 qo2 qo3 qw0 qw1 qw2 qw3
        have hb_10 := hid hb
        have KG_10 := hid (KG_9.out.step hb_10.out)
        have KS_10 := hid (KS_9.out.step hb_10.out)
        have Ko_10 := hid (Ko_9.out.step hb_10.out)
        have Kw_10 := hid (Kw_9.out.step hb_10.out)
        have LG_10 := hid (LG_9.out.step hb_10.out)
        have Lo_10 := hid (Lo_9.out.step hb_10.out)
        have Lw_10 := hid (Lw_9.out.step hb_10.out)
        have No_10 := hid (No_9.out.step hb_10.out)
        have Nw_10 := hid (Nw_9.out.step hb_10.out)
        have B_10 := hid (B_9.out.trans (hb_10.out.mono (by omega)))
        have z_10 : u9.heap.size ≤ u10.heap.size := hb_10.out.size
        clear KG_9 KS_9 Ko_9 Kw_9 LG_9 Lo_9 Lw_9 No_9 Nw_9 B_9
        clear hb_10
        clear hb
        go_wp2
        go_ret
        exact ⟨rfl, B_10.out⟩
      | true =>
        go_wp2_with fail
        refine (sameInts_any _ No_6.out.at_ Nw_6.out.at_ (by omega) (by omega)).mono ?_
        rw [sameB_selfN]
        rintro e u7 ⟨rfl, hq⟩
        have hb_7 := hid (hq.below u6.heap.size)
        have KG_7 := hid (KG_6.out.step hb_7.out)
        have KS_7 := hid (KS_6.out.step hb_7.out)
        have Ko_7 := hid (Ko_6.out.step hb_7.out)
        have Kw_7 := hid (Kw_6.out.step hb_7.out)
        have LG_7 := hid (LG_6.out.step hb_7.out)
        have Lo_7 := hid (Lo_6.out.step hb_7.out)
        have Lw_7 := hid (Lw_6.out.step hb_7.out)
        have No_7 := hid (No_6.out.step hb_7.out)
        have Nw_7 := hid (Nw_6.out.step hb_7.out)
        have B_7 := hid (B_6.out.trans (hb_7.out.mono (by omega)))
        have z_7 : u6.heap.size ≤ u7.heap.size := hb_7.out.size
        clear KG_6 KS_6 Ko_6 Kw_6 LG_6 Lo_6 Lw_6 No_6 Nw_6 B_6
        clear hb_7
        clear hq
        obtain ⟨qo0, qo1, qo2, qo3⟩ := Ko_7.out.four
        obtain ⟨qw0, qw1, qw2, qw3⟩ := Kw_7.out.four
        go_wp2_with fail
        refine (sameGroup_same id' ck' _ Lo_7.out.r1 Lo_7.out.r2 Lw_7.out.r1 Lw_7.out.r2 (by omega) (by omega)).mono ?_
        rintro e u8 ⟨rfl, hb⟩
        clear qo0 qo1 qo2 qo3 qw0 qw1 qw2 qw3
        have hb_8 := hid hb
        have KG_8 := hid (KG_7.out.step hb_8.out)
        have KS_8 := hid (KS_7.out.step hb_8.out)
        have Ko_8 := hid (Ko_7.out.step hb_8.out)
        have Kw_8 := hid (Kw_7.out.step hb_8.out)
        have LG_8 := hid (LG_7.out.step hb_8.out)
        have Lo_8 := hid (Lo_7.out.step hb_8.out)
        have Lw_8 := hid (Lw_7.out.step hb_8.out)
        have No_8 := hid (No_7.out.step hb_8.out)
        have Nw_8 := hid (Nw_7.out.step hb_8.out)
        have B_8 := hid (B_7.out.trans (hb_8.out.mono (by omega)))
        have z_8 : u7.heap.size ≤ u8.heap.size := hb_8.out.size
        clear KG_7 KS_7 Ko_7 Kw_7 LG_7 Lo_7 Lw_7 No_7 Nw_7 B_7
        clear hb_8
        clear hb
        clear Kw_8
        clear Lw_8
        clear Nw_8
        skip
        go_wp2_with fail
        refine (DrawStampLess_any _ (g'.out.belowN B_8.out)).mono ?_
        rintro e u9 ⟨t, q, t9, q9, rfl, hb⟩
        have hb_9 := hid hb
        have KG_9 := hid (KG_8.out.step hb_9.out)
        have KS_9 := hid (KS_8.out.step hb_9.out)
        have Ko_9 := hid (Ko_8.out.step hb_9.out)
        have LG_9 := hid (LG_8.out.step hb_9.out)
        have Lo_9 := hid (Lo_8.out.step hb_9.out)
        have No_9 := hid (No_8.out.step hb_9.out)
        have B_9 := hid (B_8.out.trans (hb_9.out.mono (by omega)))
        have z_9 : u8.heap.size ≤ u9.heap.size := hb_9.out.size
        clear KG_8 KS_8 Ko_8 LG_8 Lo_8 No_8 B_8
        clear hb_9
        clear hb
        go_upto_region 9 with (fail)
        obtain ⟨u10, hu⟩ : ∃ W, ((u9.alloc (.cells #[.int .i64 t, .int .i64 q] 38)).alloc (.cells #[.int .i64 t9, .int .i64 q9] 38)) = W := ⟨_, rfl⟩
        rw [hu]
        have hb : Below u9.heap.size u9 u10 := by rw [← hu]; exact below2 _ _ _
        have hcT : Cs u10 (u9.heap.size) 38 #[.int .i64 t, .int .i64 q] := by rw [← hu]; exact (Cs.new _ _ _).alloc _
        have hcT2 : Cs u10 (u9.heap.size + 1) 38 #[.int .i64 t9, .int .i64 q9] := by rw [← hu]; exact Cs.new' _ _ _ (by simp)
        clear hu
        have hb_10 := hid hb
        have KG_10 := hid (KG_9.out.step hb_10.out)
        have KS_10 := hid (KS_9.out.step hb_10.out)
        have Ko_10 := hid (Ko_9.out.step hb_10.out)
        have LG_10 := hid (LG_9.out.step hb_10.out)
        have Lo_10 := hid (Lo_9.out.step hb_10.out)
        have No_10 := hid (No_9.out.step hb_10.out)
        have B_10 := hid (B_9.out.trans (hb_10.out.mono (by omega)))
        have z_10 : u9.heap.size ≤ u10.heap.size := hb_10.out.size
        clear KG_9 KS_9 Ko_9 LG_9 Lo_9 No_9 B_9
        clear hb_10
        clear hb
        have KT_10 := hid hcT
        have yT_10 : u9.heap.size < u10.heap.size := hcT.lt
        clear hcT
        have KT2_10 := hid hcT2
        have yT2_10 : u9.heap.size + 1 < u10.heap.size := hcT2.lt
        clear hcT2
        clear KT2_10
        have h2 := fi_twice (t := (t, q)) hR.out
        cases hs : stB t q with
        | false =>
          have hs2 : okS (t, q) = false := hs
          rw [hs2] at h2
          replace h2 := hid h2
          replace hs := hid hs
          clear hs2
          obtain ⟨qo0, qo1, qo2, qo3⟩ := Ko_10.out.four
          obtain ⟨qT0, qT1, -, -⟩ := KT_10.out.two
          go_wp2_with fail
          refine (GroupFinal_impl h2.out _ (Lo_10.out.ow.rdg (by omega) (by omega)) (by omega)).mono ?_
          rintro e u11 ⟨Ax, cx, Bx, dx, Cx, ex, rfl, ox, ix, hb⟩
          clear qo0 qo1 qo2 qo3 qT0 qT1
          have hb_11 := hid hb
          have KG_11 := hid (KG_10.out.step hb_11.out)
          have KS_11 := hid (KS_10.out.step hb_11.out)
          have Ko_11 := hid (Ko_10.out.step hb_11.out)
          have KT_11 := hid (KT_10.out.step hb_11.out)
          have LG_11 := hid (LG_10.out.step hb_11.out)
          have Lo_11 := hid (Lo_10.out.step hb_11.out)
          have No_11 := hid (No_10.out.step hb_11.out)
          have B_11 := hid (B_10.out.trans (hb_11.out.mono (by omega)))
          have z_11 : u10.heap.size ≤ u11.heap.size := hb_11.out.size
          clear KG_10 KS_10 Ko_10 KT_10 LG_10 Lo_10 No_10 B_10
          clear hb_11
          clear hb
          go_upto_region 10 with (fail)
          obtain ⟨u12, hu⟩ : ∃ W, (u11.alloc (.cells #[.int .i64 0, .int .i64 0, .slice Ax 0 cx, .slice Bx 0 dx] 26)) = W := ⟨_, rfl⟩
          rw [hu]
          have hb : Below u11.heap.size u11 u12 := by rw [← hu]; exact below1 _ _
          have hcx : Cs u12 (u11.heap.size) 26 #[.int .i64 0, .int .i64 0, .slice Ax 0 cx, .slice Bx 0 dx] := by rw [← hu]; exact Cs.new _ _ _
          clear hu
          have hb_12 := hid hb
          have KG_12 := hid (KG_11.out.step hb_12.out)
          have KS_12 := hid (KS_11.out.step hb_12.out)
          have Ko_12 := hid (Ko_11.out.step hb_12.out)
          have KT_12 := hid (KT_11.out.step hb_12.out)
          have LG_12 := hid (LG_11.out.step hb_12.out)
          have Lo_12 := hid (Lo_11.out.step hb_12.out)
          have No_12 := hid (No_11.out.step hb_12.out)
          have B_12 := hid (B_11.out.trans (hb_12.out.mono (by omega)))
          have z_12 : u11.heap.size ≤ u12.heap.size := hb_12.out.size
          clear KG_11 KS_11 Ko_11 KT_11 LG_11 Lo_11 No_11 B_11
          clear hb_12
          clear hb
          have Kx_12 := hid hcx
          have yx_12 : u11.heap.size < u12.heap.size := hcx.lt
          clear hcx
          obtain ⟨qT0, qT1, -, -⟩ := KT_12.out.two
          go_wp2_with fail
          refine (StampValid_as hs.out _).mono ?_
          rintro e u13 ⟨rfl, hb⟩
          clear qT0 qT1
          have hb_13 := hid hb
          have KG_13 := hid (KG_12.out.step hb_13.out)
          have KS_13 := hid (KS_12.out.step hb_13.out)
          have Ko_13 := hid (Ko_12.out.step hb_13.out)
          have KT_13 := hid (KT_12.out.step hb_13.out)
          have Kx_13 := hid (Kx_12.out.step hb_13.out)
          have LG_13 := hid (LG_12.out.step hb_13.out)
          have Lo_13 := hid (Lo_12.out.step hb_13.out)
          have No_13 := hid (No_12.out.step hb_13.out)
          have B_13 := hid (B_12.out.trans (hb_13.out.mono (by omega)))
          have z_13 : u12.heap.size ≤ u13.heap.size := hb_13.out.size
          clear KG_12 KS_12 Ko_12 KT_12 Kx_12 LG_12 Lo_12 No_12 B_12
          clear hb_13
          clear hb
          go_wp2
          go_ret
          exact ⟨rfl, B_13.out⟩
        | true =>
          have hs2 : okS (t, q) = true := hs
          rw [hs2] at h2
          replace h2 := hid h2
          replace hs := hid hs
          clear hs2
          obtain ⟨qo0, qo1, qo2, qo3⟩ := Ko_10.out.four
          obtain ⟨qT0, qT1, -, -⟩ := KT_10.out.two
          go_wp2_with fail
          refine (GroupFinal_impl h2.out _ (Lo_10.out.ow.rdg (by omega) (by omega)) (by omega)).mono ?_
          rintro e u11 ⟨Ax, cx, Bx, dx, Cx, ex, rfl, ox, ix, hb⟩
          clear qo0 qo1 qo2 qo3 qT0 qT1
          have hb_11 := hid hb
          have KG_11 := hid (KG_10.out.step hb_11.out)
          have KS_11 := hid (KS_10.out.step hb_11.out)
          have Ko_11 := hid (Ko_10.out.step hb_11.out)
          have KT_11 := hid (KT_10.out.step hb_11.out)
          have LG_11 := hid (LG_10.out.step hb_11.out)
          have Lo_11 := hid (Lo_10.out.step hb_11.out)
          have No_11 := hid (No_10.out.step hb_11.out)
          have B_11 := hid (B_10.out.trans (hb_11.out.mono (by omega)))
          have z_11 : u10.heap.size ≤ u11.heap.size := hb_11.out.size
          clear KG_10 KS_10 Ko_10 KT_10 LG_10 Lo_10 No_10 B_10
          clear hb_11
          clear hb
          have Lx_11 := hid (Lg.of ox)
          clear ox
          go_upto_region 10 with (fail)
          obtain ⟨u12, hu⟩ : ∃ W, (u11.alloc (.cells #[.int .i64 id', .int .i64 ck', .slice Ax P'.length cx, .slice Bx D'.length dx] 26)) = W := ⟨_, rfl⟩
          rw [hu]
          have hb : Below u11.heap.size u11 u12 := by rw [← hu]; exact below1 _ _
          have hcx : Cs u12 (u11.heap.size) 26 #[.int .i64 id', .int .i64 ck', .slice Ax P'.length cx, .slice Bx D'.length dx] := by rw [← hu]; exact Cs.new _ _ _
          clear hu
          have hb_12 := hid hb
          have KG_12 := hid (KG_11.out.step hb_12.out)
          have KS_12 := hid (KS_11.out.step hb_12.out)
          have Ko_12 := hid (Ko_11.out.step hb_12.out)
          have KT_12 := hid (KT_11.out.step hb_12.out)
          have LG_12 := hid (LG_11.out.step hb_12.out)
          have Lo_12 := hid (Lo_11.out.step hb_12.out)
          have Lx_12 := hid (Lx_11.out.step hb_12.out)
          have No_12 := hid (No_11.out.step hb_12.out)
          have B_12 := hid (B_11.out.trans (hb_12.out.mono (by omega)))
          have z_12 : u11.heap.size ≤ u12.heap.size := hb_12.out.size
          clear KG_11 KS_11 Ko_11 KT_11 LG_11 Lo_11 Lx_11 No_11 B_11
          clear hb_12
          clear hb
          have Kx_12 := hid hcx
          have yx_12 : u11.heap.size < u12.heap.size := hcx.lt
          clear hcx
          obtain ⟨qT0, qT1, -, -⟩ := KT_12.out.two
          go_wp2_with fail
          refine (StampValid_as hs.out _).mono ?_
          rintro e u13 ⟨rfl, hb⟩
          clear qT0 qT1
          have hb_13 := hid hb
          have KG_13 := hid (KG_12.out.step hb_13.out)
          have KS_13 := hid (KS_12.out.step hb_13.out)
          have Ko_13 := hid (Ko_12.out.step hb_13.out)
          have KT_13 := hid (KT_12.out.step hb_13.out)
          have Kx_13 := hid (Kx_12.out.step hb_13.out)
          have LG_13 := hid (LG_12.out.step hb_13.out)
          have Lo_13 := hid (Lo_12.out.step hb_13.out)
          have Lx_13 := hid (Lx_12.out.step hb_13.out)
          have No_13 := hid (No_12.out.step hb_13.out)
          have B_13 := hid (B_12.out.trans (hb_13.out.mono (by omega)))
          have z_13 : u12.heap.size ≤ u13.heap.size := hb_13.out.size
          clear KG_12 KS_12 Ko_12 KT_12 Kx_12 LG_12 Lo_12 Lx_12 No_12 B_12
          clear hb_13
          clear hb
          obtain ⟨qx0, qx1, qx2, qx3⟩ := Kx_13.out.four
          obtain ⟨qo0, qo1, qo2, qo3⟩ := Ko_13.out.four
          go_wp2_with fail
          refine (sameGroup_same id' ck' _ Lx_13.out.r1 Lx_13.out.r2 Lo_13.out.r1 Lo_13.out.r2 (by omega) (by omega)).mono ?_
          rintro e u14 ⟨rfl, hb⟩
          clear qx0 qx1 qx2 qx3 qo0 qo1 qo2 qo3
          have hb_14 := hid hb
          have KG_14 := hid (KG_13.out.step hb_14.out)
          have KS_14 := hid (KS_13.out.step hb_14.out)
          have Ko_14 := hid (Ko_13.out.step hb_14.out)
          have KT_14 := hid (KT_13.out.step hb_14.out)
          have Kx_14 := hid (Kx_13.out.step hb_14.out)
          have LG_14 := hid (LG_13.out.step hb_14.out)
          have Lo_14 := hid (Lo_13.out.step hb_14.out)
          have Lx_14 := hid (Lx_13.out.step hb_14.out)
          have No_14 := hid (No_13.out.step hb_14.out)
          have B_14 := hid (B_13.out.trans (hb_14.out.mono (by omega)))
          have z_14 : u13.heap.size ≤ u14.heap.size := hb_14.out.size
          clear KG_13 KS_13 Ko_13 KT_13 Kx_13 LG_13 Lo_13 Lx_13 No_13 B_13
          clear hb_14
          clear hb
          go_wp2
          go_ret
          exact ⟨rfl, B_14.out⟩

theorem lawFinalTwice {a : Option Addr} {len cap : Nat} {zs : List Int} {a2 : Option Addr} {len2 cap2 : Nat} {ys : List Int} (w : World) (h : RowIs .u8 w a len cap zs) (g : RowIs .u8 w a2 len2 cap2 ys) :
    Calls Try.prog 9 #[.slice a len cap, .slice a2 len2 cap2] w fun e w' => e = .returned (.bool true) ∧ Below w.heap.size w w' :=
  lawFinalTwice_at w w h g (Below.refl _ _) (Nat.le_refl _)
end Go.Proofs.Ythfbchnhjhfpaaa
