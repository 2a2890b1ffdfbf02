/-
  The walk of the law FnProposeFail: it returns true, and nothing that was there is written. No condition.
-/
import Derived.Test.YthfbchnhjhfpaaaGnM
import Derived.Deep.CutBlock
import Derived.Deep.RegionLaw
import Derived.Deep.RegionHeld3
namespace Go.Proofs.Ythfbchnhjhfpaaa
open Go.RowKit
set_option linter.unusedVariables false
set_option linter.unusedSimpArgs false


set_option maxRecDepth 100000 in
set_option maxHeartbeats 16000000 in
theorem lawProposeFail_at {a : Option Addr} {len cap : Nat} {zs : List Int} (w u0 : World) (h : RowIs .u8 u0 a len cap zs) (hB0 : Below w.heap.size w u0) (z_0 : w.heap.size ≤ u0.heap.size) :
    Calls Try.prog 6 #[.slice a len cap] u0 fun e w' => e = .returned (.bool true) ∧ Below w.heap.size w w' := by
  have hl := h.len_leN
  have B_0 := hid hB0
  have h' := hid h
  clear hB0 h
  by_cases hbig : 1048576 < len
  · go_enter Try.func6, Try.ntmps6
    go_wp2
    go_ret
    exact ⟨rfl, B_0.out⟩
  · go_enter Try.func6, Try.ntmps6
    go_wp2_with fail
    refine (DrawGroupPropose_any _ h'.out).mono ?_
    rintro e u1 ⟨i, k, A0, c0, E0, d0, P, D, msg, rfl, ho, hl, hb⟩
    have hb_1 := hid hb
    have B_1 := hid (B_0.out.trans (hb_1.out.mono (by omega)))
    have z_1 : u0.heap.size ≤ u1.heap.size := hb_1.out.size
    clear  B_0
    clear hb_1
    clear hb
    have hP13 : P.length ≤ 13 := by omega
    have hD13 : D.length ≤ 13 := by omega
    clear hl
    have LG_1 := hid (Lg.of ho)
    clear ho
    go_upto_region 4 with (fail)
    obtain ⟨u2, hu⟩ : ∃ W, (u1.alloc (.cells #[.int .i64 i, .int .i64 k, .slice A0 P.length c0, .slice E0 D.length d0] 26)) = W := ⟨_, rfl⟩
    rw [hu]
    have hb : Below u1.heap.size u1 u2 := by rw [← hu]; exact below1 _ _
    have hcG : Cs u2 (u1.heap.size) 26 #[.int .i64 i, .int .i64 k, .slice A0 P.length c0, .slice E0 D.length d0] := by rw [← hu]; exact Cs.new _ _ _
    clear hu
    have hb_2 := hid hb
    have LG_2 := hid (LG_1.out.step hb_2.out)
    have B_2 := hid (B_1.out.trans (hb_2.out.mono (by omega)))
    have z_2 : u1.heap.size ≤ u2.heap.size := hb_2.out.size
    clear LG_1 B_1
    clear hb_2
    clear hb
    have KG_2 := hid hcG
    have yG_2 : u1.heap.size < u2.heap.size := hcG.lt
    clear hcG
    obtain ⟨id', ck', P', D', t', k', b', hR⟩ : ∃ id' ck' P' D' t' k' b', prR ⟨i, k, P, D⟩ msg = (⟨id', ck', P', D'⟩, (t', k'), b') := ⟨_, _, _, _, _, _, _, rfl⟩
    have hPl : P'.length ≤ P.length + 1 := (prR_lenN hR).1
    have hDl : D'.length ≤ D.length := (prR_lenN hR).2
    replace hR := hid hR
    obtain ⟨qG0, qG1, qG2, qG3⟩ := KG_2.out.four
    go_wp2_with fail
    refine (GroupPropose_impl hR.out _ (LG_2.out.ow.rdg (by omega) (by omega)) (by omega)).mono ?_
    rintro e u3 ⟨Ag, cg, Bg, dg, rfl, og, hb⟩
    clear qG0 qG1 qG2 qG3
    have hb_3 := hid hb
    have KG_3 := hid (KG_2.out.step hb_3.out)
    have LG_3 := hid (LG_2.out.step hb_3.out)
    have B_3 := hid (B_2.out.trans (hb_3.out.mono (by omega)))
    have z_3 : u2.heap.size ≤ u3.heap.size := hb_3.out.size
    clear KG_2 LG_2 B_2
    clear hb_3
    clear hb
    have Lo_3 := hid (Lg.of og)
    clear og
    go_upto_region 5 with (fail)
    obtain ⟨u4, hu⟩ : ∃ W, ((u3.alloc (.cells #[.int .i64 id', .int .i64 ck', .slice Ag P'.length cg, .slice Bg D'.length dg] 26)).alloc (.cells #[.int .i64 t', .int .i64 k'] 38)) = W := ⟨_, rfl⟩
    rw [hu]
    have hb : Below u3.heap.size u3 u4 := by rw [← hu]; exact below2 _ _ _
    have hco : Cs u4 (u3.heap.size) 26 #[.int .i64 id', .int .i64 ck', .slice Ag P'.length cg, .slice Bg D'.length dg] := by rw [← hu]; exact (Cs.new _ _ _).alloc _
    have hcs : Cs u4 (u3.heap.size + 1) 38 #[.int .i64 t', .int .i64 k'] := by rw [← hu]; exact Cs.new' _ _ _ (by simp)
    clear hu
    have hb_4 := hid hb
    have KG_4 := hid (KG_3.out.step hb_4.out)
    have LG_4 := hid (LG_3.out.step hb_4.out)
    have Lo_4 := hid (Lo_3.out.step hb_4.out)
    have B_4 := hid (B_3.out.trans (hb_4.out.mono (by omega)))
    have z_4 : u3.heap.size ≤ u4.heap.size := hb_4.out.size
    clear KG_3 LG_3 Lo_3 B_3
    clear hb_4
    clear hb
    have Ko_4 := hid hco
    have yo_4 : u3.heap.size < u4.heap.size := hco.lt
    clear hco
    have Ks_4 := hid hcs
    have ys_4 : u3.heap.size + 1 < u4.heap.size := hcs.lt
    clear hcs
    obtain ⟨qG0, qG1, qG2, qG3⟩ := KG_4.out.four
    go_wp2_with fail
    refine (GroupPropose_spec hR.out _ (LG_4.out.ow.rdg (by omega) (by omega)) (by omega)).mono ?_
    rintro e u5 ⟨Aw, cw, Bw, dw, rfl, ow, hb⟩
    clear qG0 qG1 qG2 qG3
    have hb_5 := hid hb
    have KG_5 := hid (KG_4.out.step hb_5.out)
    have Ko_5 := hid (Ko_4.out.step hb_5.out)
    have Ks_5 := hid (Ks_4.out.step hb_5.out)
    have LG_5 := hid (LG_4.out.step hb_5.out)
    have Lo_5 := hid (Lo_4.out.step hb_5.out)
    have B_5 := hid (B_4.out.trans (hb_5.out.mono (by omega)))
    have z_5 : u4.heap.size ≤ u5.heap.size := hb_5.out.size
    clear KG_4 Ko_4 Ks_4 LG_4 Lo_4 B_4
    clear hb_5
    clear hb
    have Lw_5 := hid (Lg.of ow)
    clear ow
    go_upto_region 6 with (fail)
    obtain ⟨u6, hu⟩ : ∃ W, ((u5.alloc (.cells #[.int .i64 id', .int .i64 ck', .slice Aw P'.length cw, .slice Bw D'.length dw] 26)).alloc (.cells #[.int .i64 t', .int .i64 k'] 38)) = W := ⟨_, rfl⟩
    rw [hu]
    have hb : Below u5.heap.size u5 u6 := by rw [← hu]; exact below2 _ _ _
    have hcw : Cs u6 (u5.heap.size) 26 #[.int .i64 id', .int .i64 ck', .slice Aw P'.length cw, .slice Bw D'.length dw] := by rw [← hu]; exact (Cs.new _ _ _).alloc _
    have hcr : Cs u6 (u5.heap.size + 1) 38 #[.int .i64 t', .int .i64 k'] := by rw [← hu]; exact Cs.new' _ _ _ (by simp)
    clear hu
    have hb_6 := hid hb
    have KG_6 := hid (KG_5.out.step hb_6.out)
    have Ko_6 := hid (Ko_5.out.step hb_6.out)
    have Ks_6 := hid (Ks_5.out.step hb_6.out)
    have LG_6 := hid (LG_5.out.step hb_6.out)
    have Lo_6 := hid (Lo_5.out.step hb_6.out)
    have Lw_6 := hid (Lw_5.out.step hb_6.out)
    have B_6 := hid (B_5.out.trans (hb_6.out.mono (by omega)))
    have z_6 : u5.heap.size ≤ u6.heap.size := hb_6.out.size
    clear KG_5 Ko_5 Ks_5 LG_5 Lo_5 Lw_5 B_5
    clear hb_6
    clear hb
    have Kw_6 := hid hcw
    have yw_6 : u5.heap.size < u6.heap.size := hcw.lt
    clear hcw
    have Kr_6 := hid hcr
    have yr_6 : u5.heap.size + 1 < u6.heap.size := hcr.lt
    clear hcr
    have e0 : (t' == t') = true := by simp
    have e1 : (k' == k') = true := by simp
    cases hv : vdB ⟨i, k, P, D⟩ with
    | false =>
      have hv := hid hv
      obtain ⟨qo0, qo1, qo2, qo3⟩ := Ko_6.out.four
      obtain ⟨qw0, qw1, qw2, qw3⟩ := Kw_6.out.four
      obtain ⟨qs0, qs1, -, -⟩ := Ks_6.out.two
      obtain ⟨qr0, qr1, -, -⟩ := Kr_6.out.two
      go_wp2_with fail
      refine (sameGroup_same id' ck' _ Lo_6.out.r1 Lo_6.out.r2 Lw_6.out.r1 Lw_6.out.r2 (by omega) (by omega)).mono ?_
      rintro e u7 ⟨rfl, hb⟩
      clear qo0 qo1 qo2 qo3 qw0 qw1 qw2 qw3 qs0 qs1 qr0 qr1
      have hb_7 := hid hb
      have KG_7 := hid (KG_6.out.step hb_7.out)
      have Ko_7 := hid (Ko_6.out.step hb_7.out)
      have Ks_7 := hid (Ks_6.out.step hb_7.out)
      have Kw_7 := hid (Kw_6.out.step hb_7.out)
      have Kr_7 := hid (Kr_6.out.step hb_7.out)
      have LG_7 := hid (LG_6.out.step hb_7.out)
      have Lo_7 := hid (Lo_6.out.step hb_7.out)
      have Lw_7 := hid (Lw_6.out.step hb_7.out)
      have B_7 := hid (B_6.out.trans (hb_7.out.mono (by omega)))
      have z_7 : u6.heap.size ≤ u7.heap.size := hb_7.out.size
      clear KG_6 Ko_6 Ks_6 Kw_6 Kr_6 LG_6 Lo_6 Lw_6 B_6
      clear hb_7
      clear hb
      obtain ⟨qG0, qG1, qG2, qG3⟩ := KG_7.out.four
      go_wp2_with fail
      refine (GroupValid_spec i k _ (LG_7.out.ow.rdg (by omega) (by omega))).mono ?_
      rw [hv.out]
      rintro e u8 ⟨rfl, hb⟩
      clear qG0 qG1 qG2 qG3
      have hb_8 := hid hb
      have KG_8 := hid (KG_7.out.step hb_8.out)
      have Ko_8 := hid (Ko_7.out.step hb_8.out)
      have Ks_8 := hid (Ks_7.out.step hb_8.out)
      have Kw_8 := hid (Kw_7.out.step hb_8.out)
      have Kr_8 := hid (Kr_7.out.step hb_8.out)
      have LG_8 := hid (LG_7.out.step hb_8.out)
      have Lo_8 := hid (Lo_7.out.step hb_8.out)
      have Lw_8 := hid (Lw_7.out.step hb_8.out)
      have B_8 := hid (B_7.out.trans (hb_8.out.mono (by omega)))
      have z_8 : u7.heap.size ≤ u8.heap.size := hb_8.out.size
      clear KG_7 Ko_7 Ks_7 Kw_7 Kr_7 LG_7 Lo_7 Lw_7 B_7
      clear hb_8
      clear hb
      obtain ⟨qo0, qo1, qo2, qo3⟩ := Ko_8.out.four
      obtain ⟨qw0, qw1, qw2, qw3⟩ := Kw_8.out.four
      obtain ⟨qs0, qs1, -, -⟩ := Ks_8.out.two
      obtain ⟨qr0, qr1, -, -⟩ := Kr_8.out.two
      go_wp2_with fail
      refine (sameGroup_same id' ck' _ Lo_8.out.r1 Lo_8.out.r2 Lw_8.out.r1 Lw_8.out.r2 (by omega) (by omega)).mono ?_
      rintro e u9 ⟨rfl, hb⟩
      clear qo0 qo1 qo2 qo3 qw0 qw1 qw2 qw3 qs0 qs1 qr0 qr1
      have hb_9 := hid hb
      have KG_9 := hid (KG_8.out.step hb_9.out)
      have Ko_9 := hid (Ko_8.out.step hb_9.out)
      have Ks_9 := hid (Ks_8.out.step hb_9.out)
      have Kw_9 := hid (Kw_8.out.step hb_9.out)
      have Kr_9 := hid (Kr_8.out.step hb_9.out)
      have LG_9 := hid (LG_8.out.step hb_9.out)
      have Lo_9 := hid (Lo_8.out.step hb_9.out)
      have Lw_9 := hid (Lw_8.out.step hb_9.out)
      have B_9 := hid (B_8.out.trans (hb_9.out.mono (by omega)))
      have z_9 : u8.heap.size ≤ u9.heap.size := hb_9.out.size
      clear KG_8 Ko_8 Ks_8 Kw_8 Kr_8 LG_8 Lo_8 Lw_8 B_8
      clear hb_9
      clear hb
      go_wp2
      go_ret
      exact ⟨rfl, B_9.out⟩
    | true =>
      have hv := hid hv
      cases b' with
      | true =>
        obtain ⟨qo0, qo1, qo2, qo3⟩ := Ko_6.out.four
        obtain ⟨qw0, qw1, qw2, qw3⟩ := Kw_6.out.four
        obtain ⟨qs0, qs1, -, -⟩ := Ks_6.out.two
        obtain ⟨qr0, qr1, -, -⟩ := Kr_6.out.two
        go_wp2_with fail
        refine (sameGroup_same id' ck' _ Lo_6.out.r1 Lo_6.out.r2 Lw_6.out.r1 Lw_6.out.r2 (by omega) (by omega)).mono ?_
        rintro e u7 ⟨rfl, hb⟩
        clear qo0 qo1 qo2 qo3 qw0 qw1 qw2 qw3 qs0 qs1 qr0 qr1
        have hb_7 := hid hb
        have KG_7 := hid (KG_6.out.step hb_7.out)
        have Ko_7 := hid (Ko_6.out.step hb_7.out)
        have Ks_7 := hid (Ks_6.out.step hb_7.out)
        have Kw_7 := hid (Kw_6.out.step hb_7.out)
        have Kr_7 := hid (Kr_6.out.step hb_7.out)
        have LG_7 := hid (LG_6.out.step hb_7.out)
        have Lo_7 := hid (Lo_6.out.step hb_7.out)
        have Lw_7 := hid (Lw_6.out.step hb_7.out)
        have B_7 := hid (B_6.out.trans (hb_7.out.mono (by omega)))
        have z_7 : u6.heap.size ≤ u7.heap.size := hb_7.out.size
        clear KG_6 Ko_6 Ks_6 Kw_6 Kr_6 LG_6 Lo_6 Lw_6 B_6
        clear hb_7
        clear hb
        obtain ⟨qG0, qG1, qG2, qG3⟩ := KG_7.out.four
        go_wp2_with fail
        refine (GroupValid_spec i k _ (LG_7.out.ow.rdg (by omega) (by omega))).mono ?_
        rw [hv.out]
        rintro e u8 ⟨rfl, hb⟩
        clear qG0 qG1 qG2 qG3
        have hb_8 := hid hb
        have KG_8 := hid (KG_7.out.step hb_8.out)
        have Ko_8 := hid (Ko_7.out.step hb_8.out)
        have Ks_8 := hid (Ks_7.out.step hb_8.out)
        have Kw_8 := hid (Kw_7.out.step hb_8.out)
        have Kr_8 := hid (Kr_7.out.step hb_8.out)
        have LG_8 := hid (LG_7.out.step hb_8.out)
        have Lo_8 := hid (Lo_7.out.step hb_8.out)
        have Lw_8 := hid (Lw_7.out.step hb_8.out)
        have B_8 := hid (B_7.out.trans (hb_8.out.mono (by omega)))
        have z_8 : u7.heap.size ≤ u8.heap.size := hb_8.out.size
        clear KG_7 Ko_7 Ks_7 Kw_7 Kr_7 LG_7 Lo_7 Lw_7 B_7
        clear hb_8
        clear hb
        obtain ⟨qo0, qo1, qo2, qo3⟩ := Ko_8.out.four
        obtain ⟨qw0, qw1, qw2, qw3⟩ := Kw_8.out.four
        obtain ⟨qs0, qs1, -, -⟩ := Ks_8.out.two
        obtain ⟨qr0, qr1, -, -⟩ := Kr_8.out.two
        go_wp2_with fail
        refine (sameGroup_same id' ck' _ Lo_8.out.r1 Lo_8.out.r2 Lw_8.out.r1 Lw_8.out.r2 (by omega) (by omega)).mono ?_
        rintro e u9 ⟨rfl, hb⟩
        clear qo0 qo1 qo2 qo3 qw0 qw1 qw2 qw3 qs0 qs1 qr0 qr1
        have hb_9 := hid hb
        have KG_9 := hid (KG_8.out.step hb_9.out)
        have Ko_9 := hid (Ko_8.out.step hb_9.out)
        have Ks_9 := hid (Ks_8.out.step hb_9.out)
        have Kw_9 := hid (Kw_8.out.step hb_9.out)
        have Kr_9 := hid (Kr_8.out.step hb_9.out)
        have LG_9 := hid (LG_8.out.step hb_9.out)
        have Lo_9 := hid (Lo_8.out.step hb_9.out)
        have Lw_9 := hid (Lw_8.out.step hb_9.out)
        have B_9 := hid (B_8.out.trans (hb_9.out.mono (by omega)))
        have z_9 : u8.heap.size ≤ u9.heap.size := hb_9.out.size
        clear KG_8 Ko_8 Ks_8 Kw_8 Kr_8 LG_8 Lo_8 Lw_8 B_8
        clear hb_9
        clear hb
        go_wp2
        go_ret
        exact ⟨rfl, B_9.out⟩
      | false =>
        by_cases hm0 : msg < 0
        · skip
          obtain ⟨qo0, qo1, qo2, qo3⟩ := Ko_6.out.four
          obtain ⟨qw0, qw1, qw2, qw3⟩ := Kw_6.out.four
          obtain ⟨qs0, qs1, -, -⟩ := Ks_6.out.two
          obtain ⟨qr0, qr1, -, -⟩ := Kr_6.out.two
          go_wp2_with fail
          refine (sameGroup_same id' ck' _ Lo_6.out.r1 Lo_6.out.r2 Lw_6.out.r1 Lw_6.out.r2 (by omega) (by omega)).mono ?_
          rintro e u7 ⟨rfl, hb⟩
          clear qo0 qo1 qo2 qo3 qw0 qw1 qw2 qw3 qs0 qs1 qr0 qr1
          have hb_7 := hid hb
          have KG_7 := hid (KG_6.out.step hb_7.out)
          have Ko_7 := hid (Ko_6.out.step hb_7.out)
          have Ks_7 := hid (Ks_6.out.step hb_7.out)
          have Kw_7 := hid (Kw_6.out.step hb_7.out)
          have Kr_7 := hid (Kr_6.out.step hb_7.out)
          have LG_7 := hid (LG_6.out.step hb_7.out)
          have Lo_7 := hid (Lo_6.out.step hb_7.out)
          have Lw_7 := hid (Lw_6.out.step hb_7.out)
          have B_7 := hid (B_6.out.trans (hb_7.out.mono (by omega)))
          have z_7 : u6.heap.size ≤ u7.heap.size := hb_7.out.size
          clear KG_6 Ko_6 Ks_6 Kw_6 Kr_6 LG_6 Lo_6 Lw_6 B_6
          clear hb_7
          clear hb
          obtain ⟨qG0, qG1, qG2, qG3⟩ := KG_7.out.four
          go_wp2_with fail
          refine (GroupValid_spec i k _ (LG_7.out.ow.rdg (by omega) (by omega))).mono ?_
          rw [hv.out]
          rintro e u8 ⟨rfl, hb⟩
          clear qG0 qG1 qG2 qG3
          have hb_8 := hid hb
          have KG_8 := hid (KG_7.out.step hb_8.out)
          have Ko_8 := hid (Ko_7.out.step hb_8.out)
          have Ks_8 := hid (Ks_7.out.step hb_8.out)
          have Kw_8 := hid (Kw_7.out.step hb_8.out)
          have Kr_8 := hid (Kr_7.out.step hb_8.out)
          have LG_8 := hid (LG_7.out.step hb_8.out)
          have Lo_8 := hid (Lo_7.out.step hb_8.out)
          have Lw_8 := hid (Lw_7.out.step hb_8.out)
          have B_8 := hid (B_7.out.trans (hb_8.out.mono (by omega)))
          have z_8 : u7.heap.size ≤ u8.heap.size := hb_8.out.size
          clear KG_7 Ko_7 Ks_7 Kw_7 Kr_7 LG_7 Lo_7 Lw_7 B_7
          clear hb_8
          clear hb
          obtain ⟨qo0, qo1, qo2, qo3⟩ := Ko_8.out.four
          obtain ⟨qw0, qw1, qw2, qw3⟩ := Kw_8.out.four
          obtain ⟨qs0, qs1, -, -⟩ := Ks_8.out.two
          obtain ⟨qr0, qr1, -, -⟩ := Kr_8.out.two
          go_wp2_with fail
          refine (sameGroup_same id' ck' _ Lo_8.out.r1 Lo_8.out.r2 Lw_8.out.r1 Lw_8.out.r2 (by omega) (by omega)).mono ?_
          rintro e u9 ⟨rfl, hb⟩
          clear qo0 qo1 qo2 qo3 qw0 qw1 qw2 qw3 qs0 qs1 qr0 qr1
          have hb_9 := hid hb
          have KG_9 := hid (KG_8.out.step hb_9.out)
          have Ko_9 := hid (Ko_8.out.step hb_9.out)
          have Ks_9 := hid (Ks_8.out.step hb_9.out)
          have Kw_9 := hid (Kw_8.out.step hb_9.out)
          have Kr_9 := hid (Kr_8.out.step hb_9.out)
          have LG_9 := hid (LG_8.out.step hb_9.out)
          have Lo_9 := hid (Lo_8.out.step hb_9.out)
          have Lw_9 := hid (Lw_8.out.step hb_9.out)
          have B_9 := hid (B_8.out.trans (hb_9.out.mono (by omega)))
          have z_9 : u8.heap.size ≤ u9.heap.size := hb_9.out.size
          clear KG_8 Ko_8 Ks_8 Kw_8 Kr_8 LG_8 Lo_8 Lw_8 B_8
          clear hb_9
          clear hb
          go_wp2
          go_ret
          exact ⟨rfl, B_9.out⟩
        · by_cases hm1 : 12 ≤ msg
          · skip
            obtain ⟨qo0, qo1, qo2, qo3⟩ := Ko_6.out.four
            obtain ⟨qw0, qw1, qw2, qw3⟩ := Kw_6.out.four
            obtain ⟨qs0, qs1, -, -⟩ := Ks_6.out.two
            obtain ⟨qr0, qr1, -, -⟩ := Kr_6.out.two
            go_wp2_with fail
            refine (sameGroup_same id' ck' _ Lo_6.out.r1 Lo_6.out.r2 Lw_6.out.r1 Lw_6.out.r2 (by omega) (by omega)).mono ?_
            rintro e u7 ⟨rfl, hb⟩
            clear qo0 qo1 qo2 qo3 qw0 qw1 qw2 qw3 qs0 qs1 qr0 qr1
            have hb_7 := hid hb
            have KG_7 := hid (KG_6.out.step hb_7.out)
            have Ko_7 := hid (Ko_6.out.step hb_7.out)
            have Ks_7 := hid (Ks_6.out.step hb_7.out)
            have Kw_7 := hid (Kw_6.out.step hb_7.out)
            have Kr_7 := hid (Kr_6.out.step hb_7.out)
            have LG_7 := hid (LG_6.out.step hb_7.out)
            have Lo_7 := hid (Lo_6.out.step hb_7.out)
            have Lw_7 := hid (Lw_6.out.step hb_7.out)
            have B_7 := hid (B_6.out.trans (hb_7.out.mono (by omega)))
            have z_7 : u6.heap.size ≤ u7.heap.size := hb_7.out.size
            clear KG_6 Ko_6 Ks_6 Kw_6 Kr_6 LG_6 Lo_6 Lw_6 B_6
            clear hb_7
            clear hb
            obtain ⟨qG0, qG1, qG2, qG3⟩ := KG_7.out.four
            go_wp2_with fail
            refine (GroupValid_spec i k _ (LG_7.out.ow.rdg (by omega) (by omega))).mono ?_
            rw [hv.out]
            rintro e u8 ⟨rfl, hb⟩
            clear qG0 qG1 qG2 qG3
            have hb_8 := hid hb
            have KG_8 := hid (KG_7.out.step hb_8.out)
            have Ko_8 := hid (Ko_7.out.step hb_8.out)
            have Ks_8 := hid (Ks_7.out.step hb_8.out)
            have Kw_8 := hid (Kw_7.out.step hb_8.out)
            have Kr_8 := hid (Kr_7.out.step hb_8.out)
            have LG_8 := hid (LG_7.out.step hb_8.out)
            have Lo_8 := hid (Lo_7.out.step hb_8.out)
            have Lw_8 := hid (Lw_7.out.step hb_8.out)
            have B_8 := hid (B_7.out.trans (hb_8.out.mono (by omega)))
            have z_8 : u7.heap.size ≤ u8.heap.size := hb_8.out.size
            clear KG_7 Ko_7 Ks_7 Kw_7 Kr_7 LG_7 Lo_7 Lw_7 B_7
            clear hb_8
            clear hb
            obtain ⟨qo0, qo1, qo2, qo3⟩ := Ko_8.out.four
            obtain ⟨qw0, qw1, qw2, qw3⟩ := Kw_8.out.four
            obtain ⟨qs0, qs1, -, -⟩ := Ks_8.out.two
            obtain ⟨qr0, qr1, -, -⟩ := Kr_8.out.two
            go_wp2_with fail
            refine (sameGroup_same id' ck' _ Lo_8.out.r1 Lo_8.out.r2 Lw_8.out.r1 Lw_8.out.r2 (by omega) (by omega)).mono ?_
            rintro e u9 ⟨rfl, hb⟩
            clear qo0 qo1 qo2 qo3 qw0 qw1 qw2 qw3 qs0 qs1 qr0 qr1
            have hb_9 := hid hb
            have KG_9 := hid (KG_8.out.step hb_9.out)
            have Ko_9 := hid (Ko_8.out.step hb_9.out)
            have Ks_9 := hid (Ks_8.out.step hb_9.out)
            have Kw_9 := hid (Kw_8.out.step hb_9.out)
            have Kr_9 := hid (Kr_8.out.step hb_9.out)
            have LG_9 := hid (LG_8.out.step hb_9.out)
            have Lo_9 := hid (Lo_8.out.step hb_9.out)
            have Lw_9 := hid (Lw_8.out.step hb_9.out)
            have B_9 := hid (B_8.out.trans (hb_9.out.mono (by omega)))
            have z_9 : u8.heap.size ≤ u9.heap.size := hb_9.out.size
            clear KG_8 Ko_8 Ks_8 Kw_8 Kr_8 LG_8 Lo_8 Lw_8 B_8
            clear hb_9
            clear hb
            go_wp2
            go_ret
            exact ⟨rfl, B_9.out⟩
          · skip
            have hm : msB msg = true := by unfold msB; simp [inB]; omega
            obtain ⟨hg, hs0, hc⟩ := pr_fail hR.out hv.out hm
            simp only [Gp.mk.injEq] at hg
            obtain ⟨g1, g2, g3, g4⟩ := hg
            have g1 := g1.symm
            have g2 := g2.symm
            have g3 := g3.symm
            have g4 := g4.symm
            subst g1 g2 g3 g4
            clear hs0
            obtain ⟨qo0, qo1, qo2, qo3⟩ := Ko_6.out.four
            obtain ⟨qw0, qw1, qw2, qw3⟩ := Kw_6.out.four
            obtain ⟨qs0, qs1, -, -⟩ := Ks_6.out.two
            obtain ⟨qr0, qr1, -, -⟩ := Kr_6.out.two
            go_wp2_with fail
            refine (sameGroup_same i k _ Lo_6.out.r1 Lo_6.out.r2 Lw_6.out.r1 Lw_6.out.r2 (by omega) (by omega)).mono ?_
            rintro e u7 ⟨rfl, hb⟩
            clear qo0 qo1 qo2 qo3 qw0 qw1 qw2 qw3 qs0 qs1 qr0 qr1
            have hb_7 := hid hb
            have KG_7 := hid (KG_6.out.step hb_7.out)
            have Ko_7 := hid (Ko_6.out.step hb_7.out)
            have Ks_7 := hid (Ks_6.out.step hb_7.out)
            have Kw_7 := hid (Kw_6.out.step hb_7.out)
            have Kr_7 := hid (Kr_6.out.step hb_7.out)
            have LG_7 := hid (LG_6.out.step hb_7.out)
            have Lo_7 := hid (Lo_6.out.step hb_7.out)
            have Lw_7 := hid (Lw_6.out.step hb_7.out)
            have B_7 := hid (B_6.out.trans (hb_7.out.mono (by omega)))
            have z_7 : u6.heap.size ≤ u7.heap.size := hb_7.out.size
            clear KG_6 Ko_6 Ks_6 Kw_6 Kr_6 LG_6 Lo_6 Lw_6 B_6
            clear hb_7
            clear hb
            obtain ⟨qG0, qG1, qG2, qG3⟩ := KG_7.out.four
            go_wp2_with fail
            refine (GroupValid_spec i k _ (LG_7.out.ow.rdg (by omega) (by omega))).mono ?_
            rw [hv.out]
            rintro e u8 ⟨rfl, hb⟩
            clear qG0 qG1 qG2 qG3
            have hb_8 := hid hb
            have KG_8 := hid (KG_7.out.step hb_8.out)
            have Ko_8 := hid (Ko_7.out.step hb_8.out)
            have Ks_8 := hid (Ks_7.out.step hb_8.out)
            have Kw_8 := hid (Kw_7.out.step hb_8.out)
            have Kr_8 := hid (Kr_7.out.step hb_8.out)
            have LG_8 := hid (LG_7.out.step hb_8.out)
            have Lo_8 := hid (Lo_7.out.step hb_8.out)
            have Lw_8 := hid (Lw_7.out.step hb_8.out)
            have B_8 := hid (B_7.out.trans (hb_8.out.mono (by omega)))
            have z_8 : u7.heap.size ≤ u8.heap.size := hb_8.out.size
            clear KG_7 Ko_7 Ks_7 Kw_7 Kr_7 LG_7 Lo_7 Lw_7 B_7
            clear hb_8
            clear hb
            clear Kw_8
            clear Kr_8
            clear Lw_8
            clear Ks_8
            rcases hc with ⟨⟨em, ⟨et, ek⟩, ef⟩, hst, hef⟩ | ⟨hst, hck⟩
            · (try simp only at hef)
              subst hef
              replace hst := hid hst
              obtain ⟨qG0, qG1, qG2, qG3⟩ := KG_8.out.four
              go_wp2_with fail
              refine (GroupStamp_impl hst.out _ (LG_8.out.ow.rdg (by omega) (by omega))).mono ?_
              rintro e u9 ⟨rfl, hb⟩
              clear qG0 qG1 qG2 qG3
              have hb_9 := hid hb
              have KG_9 := hid (KG_8.out.step hb_9.out)
              have Ko_9 := hid (Ko_8.out.step hb_9.out)
              have LG_9 := hid (LG_8.out.step hb_9.out)
              have Lo_9 := hid (Lo_8.out.step hb_9.out)
              have B_9 := hid (B_8.out.trans (hb_9.out.mono (by omega)))
              have z_9 : u8.heap.size ≤ u9.heap.size := hb_9.out.size
              clear KG_8 Ko_8 LG_8 Lo_8 B_8
              clear hb_9
              clear hb
              go_upto_region 9 with (fail)
              obtain ⟨u10, hu⟩ : ∃ W, (u9.alloc (.cells #[.int .i64 em, .int .i64 et, .int .i64 ek, .bool true] 42)) = W := ⟨_, rfl⟩
              rw [hu]
              have hb : Below u9.heap.size u9 u10 := by rw [← hu]; exact below1 _ _
              have hce : Cs u10 (u9.heap.size) 42 #[.int .i64 em, .int .i64 et, .int .i64 ek, .bool true] := by rw [← hu]; exact Cs.new _ _ _
              clear hu
              have hb_10 := hid hb
              have KG_10 := hid (KG_9.out.step hb_10.out)
              have Ko_10 := hid (Ko_9.out.step hb_10.out)
              have LG_10 := hid (LG_9.out.step hb_10.out)
              have Lo_10 := hid (Lo_9.out.step hb_10.out)
              have B_10 := hid (B_9.out.trans (hb_10.out.mono (by omega)))
              have z_10 : u9.heap.size ≤ u10.heap.size := hb_10.out.size
              clear KG_9 Ko_9 LG_9 Lo_9 B_9
              clear hb_10
              clear hb
              have Ke_10 := hid hce
              have ye_10 : u9.heap.size < u10.heap.size := hce.lt
              clear hce
              obtain ⟨qe0, qe1, qe2, qe3⟩ := Ke_10.out.four
              obtain ⟨qo0, qo1, qo2, qo3⟩ := Ko_10.out.four
              obtain ⟨qG0, qG1, qG2, qG3⟩ := KG_10.out.four
              go_wp2_with fail
              refine (sameGroup_same i k _ Lo_10.out.r1 Lo_10.out.r2 LG_10.out.r1 LG_10.out.r2 (by omega) (by omega)).mono ?_
              rintro e u11 ⟨rfl, hb⟩
              clear qo0 qo1 qo2 qo3 qG0 qG1 qG2 qG3
              have hb_11 := hid hb
              have KG_11 := hid (KG_10.out.step hb_11.out)
              have Ko_11 := hid (Ko_10.out.step hb_11.out)
              have Ke_11 := hid (Ke_10.out.step hb_11.out)
              have LG_11 := hid (LG_10.out.step hb_11.out)
              have Lo_11 := hid (Lo_10.out.step hb_11.out)
              have B_11 := hid (B_10.out.trans (hb_11.out.mono (by omega)))
              have z_11 : u10.heap.size ≤ u11.heap.size := hb_11.out.size
              clear KG_10 Ko_10 Ke_10 LG_10 Lo_10 B_10
              clear hb_11
              clear hb
              go_wp2
              go_ret
              exact ⟨rfl, B_11.out⟩
            · (try simp only at hck)
              subst hck
              unfold en0 at hst
              replace hst := hid hst
              have e99 : ((999 : Int) == 999) = true := by decide
              obtain ⟨qG0, qG1, qG2, qG3⟩ := KG_8.out.four
              go_wp2_with fail
              refine (GroupStamp_impl hst.out _ (LG_8.out.ow.rdg (by omega) (by omega))).mono ?_
              rintro e u9 ⟨rfl, hb⟩
              clear qG0 qG1 qG2 qG3
              have hb_9 := hid hb
              have KG_9 := hid (KG_8.out.step hb_9.out)
              have Ko_9 := hid (Ko_8.out.step hb_9.out)
              have LG_9 := hid (LG_8.out.step hb_9.out)
              have Lo_9 := hid (Lo_8.out.step hb_9.out)
              have B_9 := hid (B_8.out.trans (hb_9.out.mono (by omega)))
              have z_9 : u8.heap.size ≤ u9.heap.size := hb_9.out.size
              clear KG_8 Ko_8 LG_8 Lo_8 B_8
              clear hb_9
              clear hb
              go_upto_region 9 with (fail)
              obtain ⟨u10, hu⟩ : ∃ W, (u9.alloc (.cells #[.int .i64 0, .int .i64 0, .int .i64 0, .bool false] 42)) = W := ⟨_, rfl⟩
              rw [hu]
              have hb : Below u9.heap.size u9 u10 := by rw [← hu]; exact below1 _ _
              have hce : Cs u10 (u9.heap.size) 42 #[.int .i64 0, .int .i64 0, .int .i64 0, .bool false] := by rw [← hu]; exact Cs.new _ _ _
              clear hu
              have hb_10 := hid hb
              have KG_10 := hid (KG_9.out.step hb_10.out)
              have Ko_10 := hid (Ko_9.out.step hb_10.out)
              have LG_10 := hid (LG_9.out.step hb_10.out)
              have Lo_10 := hid (Lo_9.out.step hb_10.out)
              have B_10 := hid (B_9.out.trans (hb_10.out.mono (by omega)))
              have z_10 : u9.heap.size ≤ u10.heap.size := hb_10.out.size
              clear KG_9 Ko_9 LG_9 Lo_9 B_9
              clear hb_10
              clear hb
              have Ke_10 := hid hce
              have ye_10 : u9.heap.size < u10.heap.size := hce.lt
              clear hce
              obtain ⟨qe0, qe1, qe2, qe3⟩ := Ke_10.out.four
              obtain ⟨qo0, qo1, qo2, qo3⟩ := Ko_10.out.four
              obtain ⟨qG0, qG1, qG2, qG3⟩ := KG_10.out.four
              go_wp2_with fail
              refine (sameGroup_same i 999 _ Lo_10.out.r1 Lo_10.out.r2 LG_10.out.r1 LG_10.out.r2 (by omega) (by omega)).mono ?_
              rintro e u11 ⟨rfl, hb⟩
              clear qo0 qo1 qo2 qo3 qG0 qG1 qG2 qG3
              have hb_11 := hid hb
              have KG_11 := hid (KG_10.out.step hb_11.out)
              have Ko_11 := hid (Ko_10.out.step hb_11.out)
              have Ke_11 := hid (Ke_10.out.step hb_11.out)
              have LG_11 := hid (LG_10.out.step hb_11.out)
              have Lo_11 := hid (Lo_10.out.step hb_11.out)
              have B_11 := hid (B_10.out.trans (hb_11.out.mono (by omega)))
              have z_11 : u10.heap.size ≤ u11.heap.size := hb_11.out.size
              clear KG_10 Ko_10 Ke_10 LG_10 Lo_10 B_10
              clear hb_11
              clear hb
              go_wp2
              go_ret
              exact ⟨rfl, B_11.out⟩

theorem lawProposeFail {a : Option Addr} {len cap : Nat} {zs : List Int} (w : World) (h : RowIs .u8 w a len cap zs) :
    Calls Try.prog 6 #[.slice a len cap] w fun e w' => e = .returned (.bool true) ∧ Below w.heap.size w w' :=
  lawProposeFail_at w w h (Below.refl _ _) (Nat.le_refl _)
end Go.Proofs.Ythfbchnhjhfpaaa
