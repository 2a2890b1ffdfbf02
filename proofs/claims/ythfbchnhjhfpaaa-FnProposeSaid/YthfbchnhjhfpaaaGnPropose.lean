/-
  The walk of the law FnPropose: it returns true, and nothing that was there is written. No condition.
-/
import Derived.Test.YthfbchnhjhfpaaaGnM
import Derived.Deep.CutBlock
import Derived.Deep.RegionLaw
import Derived.Deep.RegionHeld3
namespace Go.Proofs.Ythfbchnhjhfpaaa
open Go.RowKit
set_option linter.unusedVariables false
set_option linter.unusedSimpArgs false


set_option maxRecDepth 100000 in
set_option maxHeartbeats 16000000 in
theorem lawPropose_at {a : Option Addr} {len cap : Nat} {zs : List Int} (w u0 : World) (h : RowIs .u8 u0 a len cap zs) (hB0 : Below w.heap.size w u0) (z_0 : w.heap.size ≤ u0.heap.size) :
    Calls Try.prog 4 #[.slice a len cap] u0 fun e w' => e = .returned (.bool true) ∧ Below w.heap.size w w' := by
  have hl := h.len_leN
  have B_0 := hid hB0
  have h' := hid h
  clear hB0 h
  by_cases hbig : 1048576 < len
  · go_enter Try.func4, Try.ntmps4
    go_wp2
    go_ret
    exact ⟨rfl, B_0.out⟩
  · go_enter Try.func4, Try.ntmps4
    go_wp2_with fail
    refine (DrawGroupPropose_any _ h'.out).mono ?_
    rintro e u1 ⟨i, k, A0, c0, E0, d0, P, D, msg, rfl, ho, hl, hb⟩
    have hb_1 := hid hb
    have B_1 := hid (B_0.out.trans (hb_1.out.mono (by omega)))
    have z_1 : u0.heap.size ≤ u1.heap.size := hb_1.out.size
    clear  B_0
    clear hb_1
    clear hb
    have hP13 : P.length ≤ 13 := by omega
    have hD13 : D.length ≤ 13 := by omega
    clear hl
    have LG_1 := hid (Lg.of ho)
    clear ho
    go_upto_region 4 with (fail)
    obtain ⟨u2, hu⟩ : ∃ W, (u1.alloc (.cells #[.int .i64 i, .int .i64 k, .slice A0 P.length c0, .slice E0 D.length d0] 26)) = W := ⟨_, rfl⟩
    rw [hu]
    have hb : Below u1.heap.size u1 u2 := by rw [← hu]; exact below1 _ _
    have hcG : Cs u2 (u1.heap.size) 26 #[.int .i64 i, .int .i64 k, .slice A0 P.length c0, .slice E0 D.length d0] := by rw [← hu]; exact Cs.new _ _ _
    clear hu
    have hb_2 := hid hb
    have LG_2 := hid (LG_1.out.step hb_2.out)
    have B_2 := hid (B_1.out.trans (hb_2.out.mono (by omega)))
    have z_2 : u1.heap.size ≤ u2.heap.size := hb_2.out.size
    clear LG_1 B_1
    clear hb_2
    clear hb
    have KG_2 := hid hcG
    have yG_2 : u1.heap.size < u2.heap.size := hcG.lt
    clear hcG
    obtain ⟨id', ck', P', D', t', k', b', hR⟩ : ∃ id' ck' P' D' t' k' b', prR ⟨i, k, P, D⟩ msg = (⟨id', ck', P', D'⟩, (t', k'), b') := ⟨_, _, _, _, _, _, _, rfl⟩
    have hPl : P'.length ≤ P.length + 1 := (prR_lenN hR).1
    have hDl : D'.length ≤ D.length := (prR_lenN hR).2
    replace hR := hid hR
    obtain ⟨qG0, qG1, qG2, qG3⟩ := KG_2.out.four
    go_wp2_with fail
    refine (GroupPropose_impl hR.out _ (LG_2.out.ow.rdg (by omega) (by omega)) (by omega)).mono ?_
    rintro e u3 ⟨Ag, cg, Bg, dg, rfl, og, hb⟩
    clear qG0 qG1 qG2 qG3
    have hb_3 := hid hb
    have KG_3 := hid (KG_2.out.step hb_3.out)
    have LG_3 := hid (LG_2.out.step hb_3.out)
    have B_3 := hid (B_2.out.trans (hb_3.out.mono (by omega)))
    have z_3 : u2.heap.size ≤ u3.heap.size := hb_3.out.size
    clear KG_2 LG_2 B_2
    clear hb_3
    clear hb
    have Lo_3 := hid (Lg.of og)
    clear og
    go_upto_region 5 with (fail)
    obtain ⟨u4, hu⟩ : ∃ W, ((u3.alloc (.cells #[.int .i64 id', .int .i64 ck', .slice Ag P'.length cg, .slice Bg D'.length dg] 26)).alloc (.cells #[.int .i64 t', .int .i64 k'] 38)) = W := ⟨_, rfl⟩
    rw [hu]
    have hb : Below u3.heap.size u3 u4 := by rw [← hu]; exact below2 _ _ _
    have hco : Cs u4 (u3.heap.size) 26 #[.int .i64 id', .int .i64 ck', .slice Ag P'.length cg, .slice Bg D'.length dg] := by rw [← hu]; exact (Cs.new _ _ _).alloc _
    have hcs : Cs u4 (u3.heap.size + 1) 38 #[.int .i64 t', .int .i64 k'] := by rw [← hu]; exact Cs.new' _ _ _ (by simp)
    clear hu
    have hb_4 := hid hb
    have KG_4 := hid (KG_3.out.step hb_4.out)
    have LG_4 := hid (LG_3.out.step hb_4.out)
    have Lo_4 := hid (Lo_3.out.step hb_4.out)
    have B_4 := hid (B_3.out.trans (hb_4.out.mono (by omega)))
    have z_4 : u3.heap.size ≤ u4.heap.size := hb_4.out.size
    clear KG_3 LG_3 Lo_3 B_3
    clear hb_4
    clear hb
    have Ko_4 := hid hco
    have yo_4 : u3.heap.size < u4.heap.size := hco.lt
    clear hco
    have Ks_4 := hid hcs
    have ys_4 : u3.heap.size + 1 < u4.heap.size := hcs.lt
    clear hcs
    obtain ⟨qG0, qG1, qG2, qG3⟩ := KG_4.out.four
    go_wp2_with fail
    refine (GroupPropose_spec hR.out _ (LG_4.out.ow.rdg (by omega) (by omega)) (by omega)).mono ?_
    rintro e u5 ⟨Aw, cw, Bw, dw, rfl, ow, hb⟩
    clear qG0 qG1 qG2 qG3
    have hb_5 := hid hb
    have KG_5 := hid (KG_4.out.step hb_5.out)
    have Ko_5 := hid (Ko_4.out.step hb_5.out)
    have Ks_5 := hid (Ks_4.out.step hb_5.out)
    have LG_5 := hid (LG_4.out.step hb_5.out)
    have Lo_5 := hid (Lo_4.out.step hb_5.out)
    have B_5 := hid (B_4.out.trans (hb_5.out.mono (by omega)))
    have z_5 : u4.heap.size ≤ u5.heap.size := hb_5.out.size
    clear KG_4 Ko_4 Ks_4 LG_4 Lo_4 B_4
    clear hb_5
    clear hb
    have Lw_5 := hid (Lg.of ow)
    clear ow
    go_upto_region 6 with (fail)
    obtain ⟨u6, hu⟩ : ∃ W, ((u5.alloc (.cells #[.int .i64 id', .int .i64 ck', .slice Aw P'.length cw, .slice Bw D'.length dw] 26)).alloc (.cells #[.int .i64 t', .int .i64 k'] 38)) = W := ⟨_, rfl⟩
    rw [hu]
    have hb : Below u5.heap.size u5 u6 := by rw [← hu]; exact below2 _ _ _
    have hcw : Cs u6 (u5.heap.size) 26 #[.int .i64 id', .int .i64 ck', .slice Aw P'.length cw, .slice Bw D'.length dw] := by rw [← hu]; exact (Cs.new _ _ _).alloc _
    have hcr : Cs u6 (u5.heap.size + 1) 38 #[.int .i64 t', .int .i64 k'] := by rw [← hu]; exact Cs.new' _ _ _ (by simp)
    clear hu
    have hb_6 := hid hb
    have KG_6 := hid (KG_5.out.step hb_6.out)
    have Ko_6 := hid (Ko_5.out.step hb_6.out)
    have Ks_6 := hid (Ks_5.out.step hb_6.out)
    have LG_6 := hid (LG_5.out.step hb_6.out)
    have Lo_6 := hid (Lo_5.out.step hb_6.out)
    have Lw_6 := hid (Lw_5.out.step hb_6.out)
    have B_6 := hid (B_5.out.trans (hb_6.out.mono (by omega)))
    have z_6 : u5.heap.size ≤ u6.heap.size := hb_6.out.size
    clear KG_5 Ko_5 Ks_5 LG_5 Lo_5 Lw_5 B_5
    clear hb_6
    clear hb
    have Kw_6 := hid hcw
    have yw_6 : u5.heap.size < u6.heap.size := hcw.lt
    clear hcw
    have Kr_6 := hid hcr
    have yr_6 : u5.heap.size + 1 < u6.heap.size := hcr.lt
    clear hcr
    have e0 : (t' == t') = true := by simp
    have e1 : (k' == k') = true := by simp
    cases b' with
    | false =>
      obtain ⟨qo0, qo1, qo2, qo3⟩ := Ko_6.out.four
      obtain ⟨qw0, qw1, qw2, qw3⟩ := Kw_6.out.four
      obtain ⟨qs0, qs1, -, -⟩ := Ks_6.out.two
      obtain ⟨qr0, qr1, -, -⟩ := Kr_6.out.two
      go_wp2_with fail
      refine (sameGroup_same id' ck' _ Lo_6.out.r1 Lo_6.out.r2 Lw_6.out.r1 Lw_6.out.r2 (by omega) (by omega)).mono ?_
      rintro e u7 ⟨rfl, hb⟩
      clear qo0 qo1 qo2 qo3 qw0 qw1 qw2 qw3 qs0 qs1 qr0 qr1
      have hb_7 := hid hb
      have KG_7 := hid (KG_6.out.step hb_7.out)
      have Ko_7 := hid (Ko_6.out.step hb_7.out)
      have Ks_7 := hid (Ks_6.out.step hb_7.out)
      have Kw_7 := hid (Kw_6.out.step hb_7.out)
      have Kr_7 := hid (Kr_6.out.step hb_7.out)
      have LG_7 := hid (LG_6.out.step hb_7.out)
      have Lo_7 := hid (Lo_6.out.step hb_7.out)
      have Lw_7 := hid (Lw_6.out.step hb_7.out)
      have B_7 := hid (B_6.out.trans (hb_7.out.mono (by omega)))
      have z_7 : u6.heap.size ≤ u7.heap.size := hb_7.out.size
      clear KG_6 Ko_6 Ks_6 Kw_6 Kr_6 LG_6 Lo_6 Lw_6 B_6
      clear hb_7
      clear hb
      obtain ⟨qo0, qo1, qo2, qo3⟩ := Ko_7.out.four
      obtain ⟨qw0, qw1, qw2, qw3⟩ := Kw_7.out.four
      obtain ⟨qs0, qs1, -, -⟩ := Ks_7.out.two
      obtain ⟨qr0, qr1, -, -⟩ := Kr_7.out.two
      go_wp2_with fail
      refine (sameGroup_same id' ck' _ Lo_7.out.r1 Lo_7.out.r2 Lw_7.out.r1 Lw_7.out.r2 (by omega) (by omega)).mono ?_
      rintro e u8 ⟨rfl, hb⟩
      clear qo0 qo1 qo2 qo3 qw0 qw1 qw2 qw3 qs0 qs1 qr0 qr1
      have hb_8 := hid hb
      have KG_8 := hid (KG_7.out.step hb_8.out)
      have Ko_8 := hid (Ko_7.out.step hb_8.out)
      have Ks_8 := hid (Ks_7.out.step hb_8.out)
      have Kw_8 := hid (Kw_7.out.step hb_8.out)
      have Kr_8 := hid (Kr_7.out.step hb_8.out)
      have LG_8 := hid (LG_7.out.step hb_8.out)
      have Lo_8 := hid (Lo_7.out.step hb_8.out)
      have Lw_8 := hid (Lw_7.out.step hb_8.out)
      have B_8 := hid (B_7.out.trans (hb_8.out.mono (by omega)))
      have z_8 : u7.heap.size ≤ u8.heap.size := hb_8.out.size
      clear KG_7 Ko_7 Ks_7 Kw_7 Kr_7 LG_7 Lo_7 Lw_7 B_7
      clear hb_8
      clear hb
      go_wp2
      go_ret
      exact ⟨rfl, B_8.out⟩
    | true =>
      obtain ⟨qo0, qo1, qo2, qo3⟩ := Ko_6.out.four
      obtain ⟨qw0, qw1, qw2, qw3⟩ := Kw_6.out.four
      obtain ⟨qs0, qs1, -, -⟩ := Ks_6.out.two
      obtain ⟨qr0, qr1, -, -⟩ := Kr_6.out.two
      go_wp2_with fail
      refine (sameGroup_same id' ck' _ Lo_6.out.r1 Lo_6.out.r2 Lw_6.out.r1 Lw_6.out.r2 (by omega) (by omega)).mono ?_
      rintro e u7 ⟨rfl, hb⟩
      clear qo0 qo1 qo2 qo3 qw0 qw1 qw2 qw3 qs0 qs1 qr0 qr1
      have hb_7 := hid hb
      have KG_7 := hid (KG_6.out.step hb_7.out)
      have Ko_7 := hid (Ko_6.out.step hb_7.out)
      have Ks_7 := hid (Ks_6.out.step hb_7.out)
      have Kw_7 := hid (Kw_6.out.step hb_7.out)
      have Kr_7 := hid (Kr_6.out.step hb_7.out)
      have LG_7 := hid (LG_6.out.step hb_7.out)
      have Lo_7 := hid (Lo_6.out.step hb_7.out)
      have Lw_7 := hid (Lw_6.out.step hb_7.out)
      have B_7 := hid (B_6.out.trans (hb_7.out.mono (by omega)))
      have z_7 : u6.heap.size ≤ u7.heap.size := hb_7.out.size
      clear KG_6 Ko_6 Ks_6 Kw_6 Kr_6 LG_6 Lo_6 Lw_6 B_6
      clear hb_7
      clear hb
      clear Kw_7
      clear Kr_7
      clear Lw_7
      have he := hid (pr_entry hR.out).2
      have hk0 := (pr_true hR.out).1.2.1
      have hk9 := (pr_true hR.out).1.2.2.1
      (try simp only at hk0 hk9)
      have hvv := hid (vdB_true.2 (pr_valid hR.out))
      rcases pr_known hR.out with ⟨hst, hg⟩ | ⟨hst, hs, -⟩
      · skip
        simp only [Gp.mk.injEq] at hg
        obtain ⟨g1, g2, g3, g4⟩ := hg
        have g1 := g1.symm
        have g2 := g2.symm
        have g3 := g3.symm
        have g4 := g4.symm
        subst g1 g2 g3 g4
        replace hst := hid hst
        obtain ⟨qG0, qG1, qG2, qG3⟩ := KG_7.out.four
        go_wp2_with fail
        refine (GroupStamp_impl hst.out _ (LG_7.out.ow.rdg (by omega) (by omega))).mono ?_
        rintro e u8 ⟨rfl, hb⟩
        clear qG0 qG1 qG2 qG3
        have hb_8 := hid hb
        have KG_8 := hid (KG_7.out.step hb_8.out)
        have Ko_8 := hid (Ko_7.out.step hb_8.out)
        have Ks_8 := hid (Ks_7.out.step hb_8.out)
        have LG_8 := hid (LG_7.out.step hb_8.out)
        have Lo_8 := hid (Lo_7.out.step hb_8.out)
        have B_8 := hid (B_7.out.trans (hb_8.out.mono (by omega)))
        have z_8 : u7.heap.size ≤ u8.heap.size := hb_8.out.size
        clear KG_7 Ko_7 Ks_7 LG_7 Lo_7 B_7
        clear hb_8
        clear hb
        go_upto_region 9 with (fail)
        obtain ⟨u9, hu⟩ : ∃ W, (u8.alloc (.cells #[.int .i64 msg, .int .i64 t', .int .i64 k', .bool false] 42)) = W := ⟨_, rfl⟩
        rw [hu]
        have hb : Below u8.heap.size u8 u9 := by rw [← hu]; exact below1 _ _
        have hck : Cs u9 (u8.heap.size) 42 #[.int .i64 msg, .int .i64 t', .int .i64 k', .bool false] := by rw [← hu]; exact Cs.new _ _ _
        clear hu
        have hb_9 := hid hb
        have KG_9 := hid (KG_8.out.step hb_9.out)
        have Ko_9 := hid (Ko_8.out.step hb_9.out)
        have Ks_9 := hid (Ks_8.out.step hb_9.out)
        have LG_9 := hid (LG_8.out.step hb_9.out)
        have Lo_9 := hid (Lo_8.out.step hb_9.out)
        have B_9 := hid (B_8.out.trans (hb_9.out.mono (by omega)))
        have z_9 : u8.heap.size ≤ u9.heap.size := hb_9.out.size
        clear KG_8 Ko_8 Ks_8 LG_8 Lo_8 B_8
        clear hb_9
        clear hb
        have Kk_9 := hid hck
        have yk_9 : u8.heap.size < u9.heap.size := hck.lt
        clear hck
        clear Kk_9
        obtain ⟨qo0, qo1, qo2, qo3⟩ := Ko_9.out.four
        go_wp2_with fail
        refine (GroupStamp_impl he.out _ (Lo_9.out.ow.rdg (by omega) (by omega))).mono ?_
        rintro e u10 ⟨rfl, hb⟩
        clear qo0 qo1 qo2 qo3
        have hb_10 := hid hb
        have KG_10 := hid (KG_9.out.step hb_10.out)
        have Ko_10 := hid (Ko_9.out.step hb_10.out)
        have Ks_10 := hid (Ks_9.out.step hb_10.out)
        have LG_10 := hid (LG_9.out.step hb_10.out)
        have Lo_10 := hid (Lo_9.out.step hb_10.out)
        have B_10 := hid (B_9.out.trans (hb_10.out.mono (by omega)))
        have z_10 : u9.heap.size ≤ u10.heap.size := hb_10.out.size
        clear KG_9 Ko_9 Ks_9 LG_9 Lo_9 B_9
        clear hb_10
        clear hb
        go_upto_region 10 with (fail)
        obtain ⟨u11, hu⟩ : ∃ W, (u10.alloc (.cells #[.int .i64 msg, .int .i64 t', .int .i64 k', .bool false] 42)) = W := ⟨_, rfl⟩
        rw [hu]
        have hb : Below u10.heap.size u10 u11 := by rw [← hu]; exact below1 _ _
        have hce : Cs u11 (u10.heap.size) 42 #[.int .i64 msg, .int .i64 t', .int .i64 k', .bool false] := by rw [← hu]; exact Cs.new _ _ _
        clear hu
        have hb_11 := hid hb
        have KG_11 := hid (KG_10.out.step hb_11.out)
        have Ko_11 := hid (Ko_10.out.step hb_11.out)
        have Ks_11 := hid (Ks_10.out.step hb_11.out)
        have LG_11 := hid (LG_10.out.step hb_11.out)
        have Lo_11 := hid (Lo_10.out.step hb_11.out)
        have B_11 := hid (B_10.out.trans (hb_11.out.mono (by omega)))
        have z_11 : u10.heap.size ≤ u11.heap.size := hb_11.out.size
        clear KG_10 Ko_10 Ks_10 LG_10 Lo_10 B_10
        clear hb_11
        clear hb
        have Ke_11 := hid hce
        have ye_11 : u10.heap.size < u11.heap.size := hce.lt
        clear hce
        obtain ⟨qo0, qo1, qo2, qo3⟩ := Ko_11.out.four
        obtain ⟨qG0, qG1, qG2, qG3⟩ := KG_11.out.four
        obtain ⟨qe0, qe1, qe2, qe3⟩ := Ke_11.out.four
        obtain ⟨qs0, qs1, -, -⟩ := Ks_11.out.two
        go_wp2_with fail
        refine (sameGroup_same i k _ Lo_11.out.r1 Lo_11.out.r2 LG_11.out.r1 LG_11.out.r2 (by omega) (by omega)).mono ?_
        rintro e u12 ⟨rfl, hb⟩
        clear qo0 qo1 qo2 qo3 qG0 qG1 qG2 qG3 qe0 qe1 qe2 qe3 qs0 qs1
        have hb_12 := hid hb
        have KG_12 := hid (KG_11.out.step hb_12.out)
        have Ko_12 := hid (Ko_11.out.step hb_12.out)
        have Ks_12 := hid (Ks_11.out.step hb_12.out)
        have Ke_12 := hid (Ke_11.out.step hb_12.out)
        have LG_12 := hid (LG_11.out.step hb_12.out)
        have Lo_12 := hid (Lo_11.out.step hb_12.out)
        have B_12 := hid (B_11.out.trans (hb_12.out.mono (by omega)))
        have z_12 : u11.heap.size ≤ u12.heap.size := hb_12.out.size
        clear KG_11 Ko_11 Ks_11 Ke_11 LG_11 Lo_11 B_11
        clear hb_12
        clear hb
        obtain ⟨qe0, qe1, qe2, qe3⟩ := Ke_12.out.four
        obtain ⟨qs0, qs1, -, -⟩ := Ks_12.out.two
        go_wp2
        go_ret
        exact ⟨rfl, B_12.out⟩
      · skip
        simp only [Prod.mk.injEq] at hs
        obtain ⟨g1, g2⟩ := hs
        have g1 := g1.symm
        have g2 := g2.symm
        subst g1 g2
        have hle := hid (fun e (h : e ∈ P) => pr_lessP hR.out hst e h)
        unfold en0 at hst
        replace hst := hid hst
        obtain ⟨qG0, qG1, qG2, qG3⟩ := KG_7.out.four
        go_wp2_with fail
        refine (GroupStamp_impl hst.out _ (LG_7.out.ow.rdg (by omega) (by omega))).mono ?_
        rintro e u8 ⟨rfl, hb⟩
        clear qG0 qG1 qG2 qG3
        have hb_8 := hid hb
        have KG_8 := hid (KG_7.out.step hb_8.out)
        have Ko_8 := hid (Ko_7.out.step hb_8.out)
        have Ks_8 := hid (Ks_7.out.step hb_8.out)
        have LG_8 := hid (LG_7.out.step hb_8.out)
        have Lo_8 := hid (Lo_7.out.step hb_8.out)
        have B_8 := hid (B_7.out.trans (hb_8.out.mono (by omega)))
        have z_8 : u7.heap.size ≤ u8.heap.size := hb_8.out.size
        clear KG_7 Ko_7 Ks_7 LG_7 Lo_7 B_7
        clear hb_8
        clear hb
        go_upto_region 9 with (fail)
        obtain ⟨u9, hu⟩ : ∃ W, (u8.alloc (.cells #[.int .i64 0, .int .i64 0, .int .i64 0, .bool false] 42)) = W := ⟨_, rfl⟩
        rw [hu]
        have hb : Below u8.heap.size u8 u9 := by rw [← hu]; exact below1 _ _
        have hck : Cs u9 (u8.heap.size) 42 #[.int .i64 0, .int .i64 0, .int .i64 0, .bool false] := by rw [← hu]; exact Cs.new _ _ _
        clear hu
        have hb_9 := hid hb
        have KG_9 := hid (KG_8.out.step hb_9.out)
        have Ko_9 := hid (Ko_8.out.step hb_9.out)
        have Ks_9 := hid (Ks_8.out.step hb_9.out)
        have LG_9 := hid (LG_8.out.step hb_9.out)
        have Lo_9 := hid (Lo_8.out.step hb_9.out)
        have B_9 := hid (B_8.out.trans (hb_9.out.mono (by omega)))
        have z_9 : u8.heap.size ≤ u9.heap.size := hb_9.out.size
        clear KG_8 Ko_8 Ks_8 LG_8 Lo_8 B_8
        clear hb_9
        clear hb
        have Kk_9 := hid hck
        have yk_9 : u8.heap.size < u9.heap.size := hck.lt
        clear hck
        clear Kk_9
        obtain ⟨qo0, qo1, qo2, qo3⟩ := Ko_9.out.four
        go_wp2_with fail
        refine (GroupStamp_impl he.out _ (Lo_9.out.ow.rdg (by omega) (by omega))).mono ?_
        rintro e u10 ⟨rfl, hb⟩
        clear qo0 qo1 qo2 qo3
        have hb_10 := hid hb
        have KG_10 := hid (KG_9.out.step hb_10.out)
        have Ko_10 := hid (Ko_9.out.step hb_10.out)
        have Ks_10 := hid (Ks_9.out.step hb_10.out)
        have LG_10 := hid (LG_9.out.step hb_10.out)
        have Lo_10 := hid (Lo_9.out.step hb_10.out)
        have B_10 := hid (B_9.out.trans (hb_10.out.mono (by omega)))
        have z_10 : u9.heap.size ≤ u10.heap.size := hb_10.out.size
        clear KG_9 Ko_9 Ks_9 LG_9 Lo_9 B_9
        clear hb_10
        clear hb
        go_upto_region 12 with (fail)
        obtain ⟨u11, hu⟩ : ∃ W, (u10.alloc (.cells #[.int .i64 msg, .int .i64 (k + 1), .int .i64 i, .bool false] 42)) = W := ⟨_, rfl⟩
        rw [hu]
        have hb : Below u10.heap.size u10 u11 := by rw [← hu]; exact below1 _ _
        have hce : Cs u11 (u10.heap.size) 42 #[.int .i64 msg, .int .i64 (k + 1), .int .i64 i, .bool false] := by rw [← hu]; exact Cs.new _ _ _
        clear hu
        have hb_11 := hid hb
        have KG_11 := hid (KG_10.out.step hb_11.out)
        have Ko_11 := hid (Ko_10.out.step hb_11.out)
        have Ks_11 := hid (Ks_10.out.step hb_11.out)
        have LG_11 := hid (LG_10.out.step hb_11.out)
        have Lo_11 := hid (Lo_10.out.step hb_11.out)
        have B_11 := hid (B_10.out.trans (hb_11.out.mono (by omega)))
        have z_11 : u10.heap.size ≤ u11.heap.size := hb_11.out.size
        clear KG_10 Ko_10 Ks_10 LG_10 Lo_10 B_10
        clear hb_11
        clear hb
        have Ke_11 := hid hce
        have ye_11 : u10.heap.size < u11.heap.size := hce.lt
        clear hce
        go_wp2_with fail
        go_loopw [15] (fun v wr => ∃ j : Nat, j ≤ P.length ∧ v = .int .i64 j ∧ Hid (Below u11.heap.size u11 wr)) (fun v _ => P.length - (intOf v).toNat)
        case atStart => exact ⟨0, by omega, rfl, hid (Below.refl _ _)⟩
        case round =>
          obtain ⟨j, hj, rfl, hB⟩ := hrel
          have hsz := hB.out.size
          have KG_r := hid (KG_11.out.step hB.out)
          have Ko_r := hid (Ko_11.out.step hB.out)
          have Ks_r := hid (Ks_11.out.step hB.out)
          have Ke_r := hid (Ke_11.out.step hB.out)
          have LG_r := hid (LG_11.out.step hB.out)
          have Lo_r := hid (Lo_11.out.step hB.out)
          obtain ⟨y0, y1, y2, y3⟩ := KG_r.out.four
          obtain ⟨s0, s1, -, -⟩ := Ks_r.out.two
          by_cases hlt : j < P.length
          · obtain ⟨b, off, m, t, g, f, rfl, hx, hb, v0, v1, v2, v3⟩ := LG_r.out.r1.at_ hlt
            have hst := hid (hle.out _ (List.mem_of_getElem? hx.out))
            simp only at hst
            have i0 : (0 : Int) ≤ (j : Int) := by omega
            have i1 : (j : Int) < (P.length : Int) := by omega
            have G3 : ∀ x : BW wr, x.wd.cell? ⟨u1.heap.size, 2, none⟩ = some (.slice (some ⟨b, off, none⟩) P.length c0) := fun x => x.cell y2
            have S0 : ∀ x : BW wr, x.wd.cell? ⟨u3.heap.size + 1, 0, none⟩ = some (.int .i64 (k + 1)) := fun x => x.cell s0
            have S1 : ∀ x : BW wr, x.wd.cell? ⟨u3.heap.size + 1, 1, none⟩ = some (.int .i64 i) := fun x => x.cell s1
            have C1 : ∀ x : BW wr, x.wd.cell? ⟨b, off + j * 4 + 1, none⟩ = some (.int .i64 t) := fun x => x.cell v1
            have C2 : ∀ x : BW wr, x.wd.cell? ⟨b, off + j * 4 + 2, none⟩ = some (.int .i64 g) := fun x => x.cell v2
            clear v0 v1 v2 v3 hx
            go_wp2_with fail
            clear y0 y1 y2 y3 s0 s1
            refine wp_region_below (by kernel_rfl) (by kernel_rfl) ?_
            repeat (go_big_quiet_step ((go_at_call 23; exact BW.call _ (StampLess_asN hst.out _))))
            refine wpQuiet_nil ?_
            intro w1 hb1
            have B5 := hid (hB.out.trans (hb1.mono hsz))
            clear hb1
            go_wp2
            go_roundw
            case rel => exact ⟨j + 1, by omega, by go_num, B5⟩
            case measure => simp [intOf]; omega
          · skip
            obtain ⟨m0, m1, m2, m3⟩ := Ke_r.out.four
            obtain ⟨n0, n1, n2, n3⟩ := Ko_r.out.four
            go_wp2_with fail
            refine (GroupValid_impl id' ck' _ (Lo_r.out.ow.rdg (by omega) (by omega))).mono ?_
            rw [hvv.out]
            rintro e w9 ⟨rfl, hb9⟩
            go_wp2
            go_ret
            exact ⟨rfl, B_11.out.trans ((hB.out.trans (hb9.mono hsz)).mono (by omega))⟩

theorem lawPropose {a : Option Addr} {len cap : Nat} {zs : List Int} (w : World) (h : RowIs .u8 w a len cap zs) :
    Calls Try.prog 4 #[.slice a len cap] w fun e w' => e = .returned (.bool true) ∧ Below w.heap.size w w' :=
  lawPropose_at w w h (Below.refl _ _) (Nat.le_refl _)
end Go.Proofs.Ythfbchnhjhfpaaa
