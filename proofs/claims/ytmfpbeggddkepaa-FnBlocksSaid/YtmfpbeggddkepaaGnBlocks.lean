/-
  The walk of the law FnBlocks: it returns true, and nothing that was there is written. No condition.
-/
import Derived.Test.YtmfpbeggddkepaaGnN
import Derived.Test.YtmfpbeggddkepaaGmYi
import Derived.Deep.CutBlock
import Derived.Deep.RegionLaw
import Derived.Deep.RegionHeld3
namespace Go.Proofs.Ytmfpbeggddkepaa
open Go.RowKit
set_option linter.unusedVariables false
set_option linter.unusedSimpArgs false


set_option maxRecDepth 100000 in
set_option maxHeartbeats 16000000 in
theorem lawBlocks_at {a : Option Addr} {len cap : Nat} {zs : List Int} (w u0 : World) (h : RowIs .u8 u0 a len cap zs) (hB0 : Below w.heap.size w u0) (z_0 : w.heap.size ≤ u0.heap.size) :
    Calls Try.prog 8 #[.slice a len cap] u0 fun e w' => e = .returned (.bool true) ∧ Below w.heap.size w w' := by
  have hl := h.len_leN
  have B_0 := hid hB0
  have h' := hid h
  clear hB0 h
  by_cases hbig : 1048576 < len
  · go_enter Try.func8, Try.ntmps8
    go_wp2
    go_ret
    exact ⟨rfl, B_0.out⟩
  · go_enter Try.func8, Try.ntmps8
    go_wp2_with fail
    refine (DrawGroupFinal_any _ h'.out).mono ?_
    rintro e u1 ⟨i, k, A0, c0, E0, d0, P, D, msg, st, sg, rfl, ho, hl, hb⟩
    have hb_1 := hid hb
    have B_1 := hid (B_0.out.trans (hb_1.out.mono (by omega)))
    have z_1 : u0.heap.size ≤ u1.heap.size := hb_1.out.size
    clear  B_0
    clear hb_1
    clear hb
    have hP13 : P.length ≤ 13 := by omega
    have hD13 : D.length ≤ 13 := by omega
    clear hl
    have LG_1 := hid (Lg.of ho)
    clear ho
    go_upto_region 4 with (fail)
    obtain ⟨u2, hu⟩ : ∃ W, ((u1.alloc (.cells #[.int .i64 i, .int .i64 k, .slice A0 P.length c0, .slice E0 D.length d0] 25)).alloc (.cells #[.int .i64 st, .int .i64 sg] 29)) = W := ⟨_, rfl⟩
    rw [hu]
    have hb : Below u1.heap.size u1 u2 := by rw [← hu]; exact below2 _ _ _
    have hcG : Cs u2 (u1.heap.size) 25 #[.int .i64 i, .int .i64 k, .slice A0 P.length c0, .slice E0 D.length d0] := by rw [← hu]; exact (Cs.new _ _ _).alloc _
    have hcS : Cs u2 (u1.heap.size + 1) 29 #[.int .i64 st, .int .i64 sg] := by rw [← hu]; exact Cs.new' _ _ _ (by simp)
    clear hu
    have hb_2 := hid hb
    have LG_2 := hid (LG_1.out.step hb_2.out)
    have B_2 := hid (B_1.out.trans (hb_2.out.mono (by omega)))
    have z_2 : u1.heap.size ≤ u2.heap.size := hb_2.out.size
    clear LG_1 B_1
    clear hb_2
    clear hb
    have KG_2 := hid hcG
    have yG_2 : u1.heap.size < u2.heap.size := hcG.lt
    clear hcG
    have KS_2 := hid hcS
    have yS_2 : u1.heap.size + 1 < u2.heap.size := hcS.lt
    clear hcS
    obtain ⟨id', ck', P', D', T, b', hR⟩ : ∃ id' ck' P' D' T b', fiR ⟨i, k, P, D⟩ msg (st, sg) = (⟨id', ck', P', D'⟩, T, b') := ⟨_, _, _, _, _, _, rfl⟩
    have hPl : P'.length ≤ P.length := (fiR_lenN hR).1
    have hDl : D'.length ≤ D.length + P.length := (fiR_lenN hR).2.1
    have hTl : T.length ≤ P.length := (fiR_lenN hR).2.2
    replace hR := hid hR
    obtain ⟨qG0, qG1, qG2, qG3⟩ := KG_2.out.four
    obtain ⟨qS0, qS1, -, -⟩ := KS_2.out.two
    go_wp2_with fail
    refine (GroupFinal_impl hR.out _ (LG_2.out.ow.rdg (by omega) (by omega)) (by omega)).mono ?_
    rintro e u3 ⟨Ag, cg, Bg, dg, Cg, eg, rfl, og, ig, hb⟩
    clear qG0 qG1 qG2 qG3 qS0 qS1
    have hb_3 := hid hb
    have KG_3 := hid (KG_2.out.step hb_3.out)
    have KS_3 := hid (KS_2.out.step hb_3.out)
    have LG_3 := hid (LG_2.out.step hb_3.out)
    have B_3 := hid (B_2.out.trans (hb_3.out.mono (by omega)))
    have z_3 : u2.heap.size ≤ u3.heap.size := hb_3.out.size
    clear KG_2 KS_2 LG_2 B_2
    clear hb_3
    clear hb
    have Lo_3 := hid (Lg.of og)
    clear og
    have No_3 := hid (Lv.ofI ig)
    clear ig
    go_upto_region 5 with (fail)
    obtain ⟨u4, hu⟩ : ∃ W, (u3.alloc (.cells #[.int .i64 id', .int .i64 ck', .slice Ag P'.length cg, .slice Bg D'.length dg] 25)) = W := ⟨_, rfl⟩
    rw [hu]
    have hb : Below u3.heap.size u3 u4 := by rw [← hu]; exact below1 _ _
    have hco : Cs u4 (u3.heap.size) 25 #[.int .i64 id', .int .i64 ck', .slice Ag P'.length cg, .slice Bg D'.length dg] := by rw [← hu]; exact Cs.new _ _ _
    clear hu
    have hb_4 := hid hb
    have KG_4 := hid (KG_3.out.step hb_4.out)
    have KS_4 := hid (KS_3.out.step hb_4.out)
    have LG_4 := hid (LG_3.out.step hb_4.out)
    have Lo_4 := hid (Lo_3.out.step hb_4.out)
    have No_4 := hid (No_3.out.step hb_4.out)
    have B_4 := hid (B_3.out.trans (hb_4.out.mono (by omega)))
    have z_4 : u3.heap.size ≤ u4.heap.size := hb_4.out.size
    clear KG_3 KS_3 LG_3 Lo_3 No_3 B_3
    clear hb_4
    clear hb
    have Ko_4 := hid hco
    have yo_4 : u3.heap.size < u4.heap.size := hco.lt
    clear hco
    obtain ⟨qG0, qG1, qG2, qG3⟩ := KG_4.out.four
    obtain ⟨qS0, qS1, -, -⟩ := KS_4.out.two
    go_wp2_with fail
    refine (GroupFinal_spec hR.out _ (LG_4.out.ow.rdg (by omega) (by omega)) (by omega)).mono ?_
    rintro e u5 ⟨Aw, cw, Bw, dw, Cw, ew, rfl, ow, iw, hb⟩
    clear qG0 qG1 qG2 qG3 qS0 qS1
    have hb_5 := hid hb
    have KG_5 := hid (KG_4.out.step hb_5.out)
    have KS_5 := hid (KS_4.out.step hb_5.out)
    have Ko_5 := hid (Ko_4.out.step hb_5.out)
    have LG_5 := hid (LG_4.out.step hb_5.out)
    have Lo_5 := hid (Lo_4.out.step hb_5.out)
    have No_5 := hid (No_4.out.step hb_5.out)
    have B_5 := hid (B_4.out.trans (hb_5.out.mono (by omega)))
    have z_5 : u4.heap.size ≤ u5.heap.size := hb_5.out.size
    clear KG_4 KS_4 Ko_4 LG_4 Lo_4 No_4 B_4
    clear hb_5
    clear hb
    have Lw_5 := hid (Lg.of ow)
    clear ow
    have Nw_5 := hid (Lv.ofI iw)
    clear iw
    go_upto_region 6 with (fail)
    obtain ⟨u6, hu⟩ : ∃ W, (u5.alloc (.cells #[.int .i64 id', .int .i64 ck', .slice Aw P'.length cw, .slice Bw D'.length dw] 25)) = W := ⟨_, rfl⟩
    rw [hu]
    have hb : Below u5.heap.size u5 u6 := by rw [← hu]; exact below1 _ _
    have hcw : Cs u6 (u5.heap.size) 25 #[.int .i64 id', .int .i64 ck', .slice Aw P'.length cw, .slice Bw D'.length dw] := by rw [← hu]; exact Cs.new _ _ _
    clear hu
    have hb_6 := hid hb
    have KG_6 := hid (KG_5.out.step hb_6.out)
    have KS_6 := hid (KS_5.out.step hb_6.out)
    have Ko_6 := hid (Ko_5.out.step hb_6.out)
    have LG_6 := hid (LG_5.out.step hb_6.out)
    have Lo_6 := hid (Lo_5.out.step hb_6.out)
    have Lw_6 := hid (Lw_5.out.step hb_6.out)
    have No_6 := hid (No_5.out.step hb_6.out)
    have Nw_6 := hid (Nw_5.out.step hb_6.out)
    have B_6 := hid (B_5.out.trans (hb_6.out.mono (by omega)))
    have z_6 : u5.heap.size ≤ u6.heap.size := hb_6.out.size
    clear KG_5 KS_5 Ko_5 LG_5 Lo_5 Lw_5 No_5 Nw_5 B_5
    clear hb_6
    clear hb
    have Kw_6 := hid hcw
    have yw_6 : u5.heap.size < u6.heap.size := hcw.lt
    clear hcw
    cases b' with
    | false =>
      go_wp2_with fail
      refine (sameInts_any _ No_6.out.at_ Nw_6.out.at_ (by omega) (by omega)).mono ?_
      rw [sameB_selfN]
      rintro e u7 ⟨rfl, hq⟩
      have hb_7 := hid (hq.below u6.heap.size)
      have KG_7 := hid (KG_6.out.step hb_7.out)
      have KS_7 := hid (KS_6.out.step hb_7.out)
      have Ko_7 := hid (Ko_6.out.step hb_7.out)
      have Kw_7 := hid (Kw_6.out.step hb_7.out)
      have LG_7 := hid (LG_6.out.step hb_7.out)
      have Lo_7 := hid (Lo_6.out.step hb_7.out)
      have Lw_7 := hid (Lw_6.out.step hb_7.out)
      have No_7 := hid (No_6.out.step hb_7.out)
      have Nw_7 := hid (Nw_6.out.step hb_7.out)
      have B_7 := hid (B_6.out.trans (hb_7.out.mono (by omega)))
      have z_7 : u6.heap.size ≤ u7.heap.size := hb_7.out.size
      clear KG_6 KS_6 Ko_6 Kw_6 LG_6 Lo_6 Lw_6 No_6 Nw_6 B_6
      clear hb_7
      clear hq
      obtain ⟨qo0, qo1, qo2, qo3⟩ := Ko_7.out.four
      obtain ⟨qw0, qw1, qw2, qw3⟩ := Kw_7.out.four
      go_wp2_with fail
      refine (sameGroup_same id' ck' _ Lo_7.out.r1 Lo_7.out.r2 Lw_7.out.r1 Lw_7.out.r2 (by omega) (by omega)).mono ?_
      rintro e u8 ⟨rfl, hb⟩
      clear qo0 qo1 qo2 qo3 qw0 qw1 qw2 qw3
      have hb_8 := hid hb
      have KG_8 := hid (KG_7.out.step hb_8.out)
      have KS_8 := hid (KS_7.out.step hb_8.out)
      have Ko_8 := hid (Ko_7.out.step hb_8.out)
      have Kw_8 := hid (Kw_7.out.step hb_8.out)
      have LG_8 := hid (LG_7.out.step hb_8.out)
      have Lo_8 := hid (Lo_7.out.step hb_8.out)
      have Lw_8 := hid (Lw_7.out.step hb_8.out)
      have No_8 := hid (No_7.out.step hb_8.out)
      have Nw_8 := hid (Nw_7.out.step hb_8.out)
      have B_8 := hid (B_7.out.trans (hb_8.out.mono (by omega)))
      have z_8 : u7.heap.size ≤ u8.heap.size := hb_8.out.size
      clear KG_7 KS_7 Ko_7 Kw_7 LG_7 Lo_7 Lw_7 No_7 Nw_7 B_7
      clear hb_8
      clear hb
      go_wp2_with fail
      refine (sameInts_any _ No_8.out.at_ Nw_8.out.at_ (by omega) (by omega)).mono ?_
      rw [sameB_selfN]
      rintro e u9 ⟨rfl, hq⟩
      have hb_9 := hid (hq.below u8.heap.size)
      have KG_9 := hid (KG_8.out.step hb_9.out)
      have KS_9 := hid (KS_8.out.step hb_9.out)
      have Ko_9 := hid (Ko_8.out.step hb_9.out)
      have Kw_9 := hid (Kw_8.out.step hb_9.out)
      have LG_9 := hid (LG_8.out.step hb_9.out)
      have Lo_9 := hid (Lo_8.out.step hb_9.out)
      have Lw_9 := hid (Lw_8.out.step hb_9.out)
      have No_9 := hid (No_8.out.step hb_9.out)
      have Nw_9 := hid (Nw_8.out.step hb_9.out)
      have B_9 := hid (B_8.out.trans (hb_9.out.mono (by omega)))
      have z_9 : u8.heap.size ≤ u9.heap.size := hb_9.out.size
      clear KG_8 KS_8 Ko_8 Kw_8 LG_8 Lo_8 Lw_8 No_8 Nw_8 B_8
      clear hb_9
      clear hq
      obtain ⟨qo0, qo1, qo2, qo3⟩ := Ko_9.out.four
      obtain ⟨qw0, qw1, qw2, qw3⟩ := Kw_9.out.four
      go_wp2_with fail
      refine (sameGroup_same id' ck' _ Lo_9.out.r1 Lo_9.out.r2 Lw_9.out.r1 Lw_9.out.r2 (by omega) (by omega)).mono ?_
      rintro e u10 ⟨rfl, hb⟩
      clear qo0 qo1 qo2 qo3 qw0 qw1 qw2 qw3
      have hb_10 := hid hb
      have KG_10 := hid (KG_9.out.step hb_10.out)
      have KS_10 := hid (KS_9.out.step hb_10.out)
      have Ko_10 := hid (Ko_9.out.step hb_10.out)
      have Kw_10 := hid (Kw_9.out.step hb_10.out)
      have LG_10 := hid (LG_9.out.step hb_10.out)
      have Lo_10 := hid (Lo_9.out.step hb_10.out)
      have Lw_10 := hid (Lw_9.out.step hb_10.out)
      have No_10 := hid (No_9.out.step hb_10.out)
      have Nw_10 := hid (Nw_9.out.step hb_10.out)
      have B_10 := hid (B_9.out.trans (hb_10.out.mono (by omega)))
      have z_10 : u9.heap.size ≤ u10.heap.size := hb_10.out.size
      clear KG_9 KS_9 Ko_9 Kw_9 LG_9 Lo_9 Lw_9 No_9 Nw_9 B_9
      clear hb_10
      clear hb
      go_wp2
      go_ret
      exact ⟨rfl, B_10.out⟩
    | true =>
      go_wp2_with fail
      refine (sameInts_any _ No_6.out.at_ Nw_6.out.at_ (by omega) (by omega)).mono ?_
      rw [sameB_selfN]
      rintro e u7 ⟨rfl, hq⟩
      have hb_7 := hid (hq.below u6.heap.size)
      have KG_7 := hid (KG_6.out.step hb_7.out)
      have KS_7 := hid (KS_6.out.step hb_7.out)
      have Ko_7 := hid (Ko_6.out.step hb_7.out)
      have Kw_7 := hid (Kw_6.out.step hb_7.out)
      have LG_7 := hid (LG_6.out.step hb_7.out)
      have Lo_7 := hid (Lo_6.out.step hb_7.out)
      have Lw_7 := hid (Lw_6.out.step hb_7.out)
      have No_7 := hid (No_6.out.step hb_7.out)
      have Nw_7 := hid (Nw_6.out.step hb_7.out)
      have B_7 := hid (B_6.out.trans (hb_7.out.mono (by omega)))
      have z_7 : u6.heap.size ≤ u7.heap.size := hb_7.out.size
      clear KG_6 KS_6 Ko_6 Kw_6 LG_6 Lo_6 Lw_6 No_6 Nw_6 B_6
      clear hb_7
      clear hq
      obtain ⟨qo0, qo1, qo2, qo3⟩ := Ko_7.out.four
      obtain ⟨qw0, qw1, qw2, qw3⟩ := Kw_7.out.four
      go_wp2_with fail
      refine (sameGroup_same id' ck' _ Lo_7.out.r1 Lo_7.out.r2 Lw_7.out.r1 Lw_7.out.r2 (by omega) (by omega)).mono ?_
      rintro e u8 ⟨rfl, hb⟩
      clear qo0 qo1 qo2 qo3 qw0 qw1 qw2 qw3
      have hb_8 := hid hb
      have KG_8 := hid (KG_7.out.step hb_8.out)
      have KS_8 := hid (KS_7.out.step hb_8.out)
      have Ko_8 := hid (Ko_7.out.step hb_8.out)
      have Kw_8 := hid (Kw_7.out.step hb_8.out)
      have LG_8 := hid (LG_7.out.step hb_8.out)
      have Lo_8 := hid (Lo_7.out.step hb_8.out)
      have Lw_8 := hid (Lw_7.out.step hb_8.out)
      have No_8 := hid (No_7.out.step hb_8.out)
      have Nw_8 := hid (Nw_7.out.step hb_8.out)
      have B_8 := hid (B_7.out.trans (hb_8.out.mono (by omega)))
      have z_8 : u7.heap.size ≤ u8.heap.size := hb_8.out.size
      clear KG_7 KS_7 Ko_7 Kw_7 LG_7 Lo_7 Lw_7 No_7 Nw_7 B_7
      clear hb_8
      clear hb
      clear Kw_8
      clear Lw_8
      clear Nw_8
      obtain ⟨⟨pm, ⟨pt, pk⟩, pf⟩, l, hPc, hm⟩ := fi_blocks hR.out
      simp only at hPc hm
      have hPn : 0 < P.length := by rw [hPc]; simp
      obtain ⟨b, off, xm, xt, xk, xf, rfl, hx, hbb, d0, d1, d2, d3⟩ := LG_8.out.r1.at_ hPn
      have hx' := hx.out
      rw [hPc] at hx'
      simp only [List.getElem?_cons_zero, Option.some.injEq, Prod.mk.injEq] at hx'
      obtain ⟨rfl, ⟨rfl, rfl⟩, rfl⟩ := hx'
      clear hx hPc
      simp only [Nat.zero_mul, Nat.add_zero] at d0 d1 d2 d3
      have i1 : (0 : Int) < (P.length : Int) := by omega
      by_cases hmm : msg = pm
      · subst hmm
        obtain ⟨qG0, qG1, qG2, qG3⟩ := KG_8.out.four
        have e9 : (msg == msg) = true := by simp
        go_wp2
        go_ret
        exact ⟨rfl, B_8.out⟩
      · have hT : T = [] := hm.resolve_left hmm
        have e9 : (msg == pm) = false := by simp [hmm]
        subst hT
        obtain ⟨qG0, qG1, qG2, qG3⟩ := KG_8.out.four
        go_wp2
        go_ret
        exact ⟨rfl, B_8.out⟩

theorem lawBlocks {a : Option Addr} {len cap : Nat} {zs : List Int} (w : World) (h : RowIs .u8 w a len cap zs) :
    Calls Try.prog 8 #[.slice a len cap] w fun e w' => e = .returned (.bool true) ∧ Below w.heap.size w w' :=
  lawBlocks_at w w h (Below.refl _ _) (Nat.le_refl _)
end Go.Proofs.Ytmfpbeggddkepaa
