/-
  The walk of the law FnRoundAddOrder: it returns true, and nothing that was there is written. No condition.
-/
import Derived.Test.YtccggcdjajehnaaRmY
import Derived.Test.YtccggcdjajehnaaRyM
import Derived.Test.YtccggcdjajehnaaRmK
import Derived.Deep.CutBlock
import Derived.Deep.RegionLaw
import Derived.Deep.RegionHeld3
import Derived.Deep.DeepCutAuto
namespace Go.Proofs.Ytccggcdjajehnaa
open Go.RowKit
set_option linter.unusedVariables false
set_option linter.unusedSimpArgs false



set_option maxRecDepth 100000 in
set_option maxHeartbeats 16000000 in
theorem lawRoundAddOrder_at {a : Option Addr} {len cap : Nat} {zs : List Int} {a2 : Option Addr} {len2 cap2 : Nat} {ys : List Int} (w u0 : World) (h : RowIs .u8 u0 a len cap zs) (g : RowIs .u8 w a2 len2 cap2 ys) (hB0 : Below w.heap.size w u0) (z_0 : w.heap.size ≤ u0.heap.size) :
    Calls Try.prog 6 #[.slice a len cap, .slice a2 len2 cap2] u0 fun e w' => e = .returned (.bool true) ∧ Below w.heap.size w w' := by
  have hl := h.len_leR
  have B_0 := hid hB0
  have h' := hid h
  clear hB0 h
  by_cases hbig : 1048576 < len
  · go_enter Try.func6, Try.ntmps6
    go_wp2
    go_ret
    exact ⟨rfl, B_0.out⟩
  · have gl := g.len_leR
    have g' := hid g
    clear g
    by_cases hbig2 : 1048576 < len2
    · go_enter Try.func6, Try.ntmps6
      go_wp2
      go_ret
      exact ⟨rfl, B_0.out⟩
    · go_enter Try.func6, Try.ntmps6
      go_wp2_with fail
      refine (DrawRoundAdd_any _ h'.out).mono ?_
      rintro e u1 ⟨m, A1, c1, A2, c2, gs, xs, st, sg, rfl, o1, ⟨hl1, hl2⟩, hb⟩
      have hb_1 := hid hb
      have B_1 := hid (B_0.out.trans (hb_1.out.mono (by omega)))
      have z_1 : u0.heap.size ≤ u1.heap.size := hb_1.out.size
      clear  B_0
      clear hb_1
      clear hb
      have Lr_1 := hid (Lr.of o1)
      clear o1
      go_upto_region 4 with (fail)
      obtain ⟨u2, hu⟩ : ∃ W, ((u1.alloc (.cells #[.int .i64 m, .slice A1 gs.length c1, .slice A2 xs.length c2] 28)).alloc (.cells #[.int .i64 st, .int .i64 sg] 33)) = W := ⟨_, rfl⟩
      rw [hu]
      have hb : Below u1.heap.size u1 u2 := by rw [← hu]; exact below2 _ _ _
      have hcr : Cs u2 (u1.heap.size) 28 #[.int .i64 m, .slice A1 gs.length c1, .slice A2 xs.length c2] := by rw [← hu]; exact (Cs.new _ _ _).alloc _
      have hcs : Cs u2 (u1.heap.size + 1) 33 #[.int .i64 st, .int .i64 sg] := by rw [← hu]; exact Cs.new' _ _ _ (by simp)
      clear hu
      have hb_2 := hid hb
      have Lr_2 := hid (Lr_1.out.step hb_2.out)
      have B_2 := hid (B_1.out.trans (hb_2.out.mono (by omega)))
      have z_2 : u1.heap.size ≤ u2.heap.size := hb_2.out.size
      clear Lr_1 B_1
      clear hb_2
      clear hb
      have Kr_2 := hid hcr
      have yr_2 : u1.heap.size < u2.heap.size := hcr.lt
      clear hcr
      have Ks_2 := hid hcs
      have ys_2 : u1.heap.size + 1 < u2.heap.size := hcs.lt
      clear hcs
      obtain ⟨om, og, ox, ok, hR⟩ : ∃ om og ox ok, adR m gs xs (st, sg) = ⟨om, og, ox, ok⟩ := ⟨_, _, _, _, rfl⟩
      have hol := (adR_len hR).1
      have hxl := (adR_len hR).2
      have hol9 : og.length ≤ 1048576 := by omega
      have hxl9 : ox.length ≤ 1048576 := by omega
      clear hol hxl
      replace hR := hid hR
      obtain ⟨qr0, qr1, qr2⟩ := Kr_2.out.three
      obtain ⟨qs0, qs1, -, -⟩ := Ks_2.out.two
      go_wp2_with fail
      refine (RoundAdd_implE hR.out _ (Lr_2.out.ow.rd (by omega) (by omega))).mono ?_
      rintro e u3 ⟨Ao, co, Eo, eo, rfl, oo, hb⟩
      clear qr0 qr1 qr2 qs0 qs1
      have hb_3 := hid hb
      have Kr_3 := hid (Kr_2.out.step hb_3.out)
      have Ks_3 := hid (Ks_2.out.step hb_3.out)
      have Lr_3 := hid (Lr_2.out.step hb_3.out)
      have B_3 := hid (B_2.out.trans (hb_3.out.mono (by omega)))
      have z_3 : u2.heap.size ≤ u3.heap.size := hb_3.out.size
      clear Kr_2 Ks_2 Lr_2 B_2
      clear hb_3
      clear hb
      have Lo_3 := hid (Lr.of oo)
      clear oo
      go_upto_region 5 with (fail)
      obtain ⟨u4, hu⟩ : ∃ W, (u3.alloc (.cells #[.int .i64 om, .slice Ao og.length co, .slice Eo ox.length eo] 28)) = W := ⟨_, rfl⟩
      rw [hu]
      have hb : Below u3.heap.size u3 u4 := by rw [← hu]; exact below1 _ _
      have hco : Cs u4 (u3.heap.size) 28 #[.int .i64 om, .slice Ao og.length co, .slice Eo ox.length eo] := by rw [← hu]; exact Cs.new _ _ _
      clear hu
      have hb_4 := hid hb
      have Kr_4 := hid (Kr_3.out.step hb_4.out)
      have Ks_4 := hid (Ks_3.out.step hb_4.out)
      have Lr_4 := hid (Lr_3.out.step hb_4.out)
      have Lo_4 := hid (Lo_3.out.step hb_4.out)
      have B_4 := hid (B_3.out.trans (hb_4.out.mono (by omega)))
      have z_4 : u3.heap.size ≤ u4.heap.size := hb_4.out.size
      clear Kr_3 Ks_3 Lr_3 Lo_3 B_3
      clear hb_4
      clear hb
      have Ko_4 := hid hco
      have yo_4 : u3.heap.size < u4.heap.size := hco.lt
      clear hco
      obtain ⟨qr0, qr1, qr2⟩ := Kr_4.out.three
      obtain ⟨qs0, qs1, -, -⟩ := Ks_4.out.two
      go_wp2_with fail
      refine (RoundAdd_specE hR.out _ (Lr_4.out.ow.rd (by omega) (by omega))).mono ?_
      rintro e u5 ⟨Aw, cw, Ew, ew, rfl, ow, hb⟩
      clear qr0 qr1 qr2 qs0 qs1
      have hb_5 := hid hb
      have Kr_5 := hid (Kr_4.out.step hb_5.out)
      have Ks_5 := hid (Ks_4.out.step hb_5.out)
      have Ko_5 := hid (Ko_4.out.step hb_5.out)
      have Lr_5 := hid (Lr_4.out.step hb_5.out)
      have Lo_5 := hid (Lo_4.out.step hb_5.out)
      have B_5 := hid (B_4.out.trans (hb_5.out.mono (by omega)))
      have z_5 : u4.heap.size ≤ u5.heap.size := hb_5.out.size
      clear Kr_4 Ks_4 Ko_4 Lr_4 Lo_4 B_4
      clear hb_5
      clear hb
      have Lw_5 := hid (Lr.of ow)
      clear ow
      go_upto_region 6 with (fail)
      obtain ⟨u6, hu⟩ : ∃ W, (u5.alloc (.cells #[.int .i64 om, .slice Aw og.length cw, .slice Ew ox.length ew] 28)) = W := ⟨_, rfl⟩
      rw [hu]
      have hb : Below u5.heap.size u5 u6 := by rw [← hu]; exact below1 _ _
      have hcw : Cs u6 (u5.heap.size) 28 #[.int .i64 om, .slice Aw og.length cw, .slice Ew ox.length ew] := by rw [← hu]; exact Cs.new _ _ _
      clear hu
      have hb_6 := hid hb
      have Kr_6 := hid (Kr_5.out.step hb_6.out)
      have Ks_6 := hid (Ks_5.out.step hb_6.out)
      have Ko_6 := hid (Ko_5.out.step hb_6.out)
      have Lr_6 := hid (Lr_5.out.step hb_6.out)
      have Lo_6 := hid (Lo_5.out.step hb_6.out)
      have Lw_6 := hid (Lw_5.out.step hb_6.out)
      have B_6 := hid (B_5.out.trans (hb_6.out.mono (by omega)))
      have z_6 : u5.heap.size ≤ u6.heap.size := hb_6.out.size
      clear Kr_5 Ks_5 Ko_5 Lr_5 Lo_5 Lw_5 B_5
      clear hb_6
      clear hb
      have Kw_6 := hid hcw
      have yw_6 : u5.heap.size < u6.heap.size := hcw.lt
      clear hcw
      cases ok with
      | false =>
        obtain ⟨qo0, qo1, qo2⟩ := Ko_6.out.three
        obtain ⟨qw0, qw1, qw2⟩ := Kw_6.out.three
        go_wp2_with fail
        refine (sameRound_same om _ Lo_6.out.r1 Lo_6.out.r2 Lw_6.out.r1 Lw_6.out.r2 (by omega) (by omega)).mono ?_
        rintro e u7 ⟨rfl, hb⟩
        clear qo0 qo1 qo2 qw0 qw1 qw2
        have hb_7 := hid hb
        have Kr_7 := hid (Kr_6.out.step hb_7.out)
        have Ks_7 := hid (Ks_6.out.step hb_7.out)
        have Ko_7 := hid (Ko_6.out.step hb_7.out)
        have Kw_7 := hid (Kw_6.out.step hb_7.out)
        have Lr_7 := hid (Lr_6.out.step hb_7.out)
        have Lo_7 := hid (Lo_6.out.step hb_7.out)
        have Lw_7 := hid (Lw_6.out.step hb_7.out)
        have B_7 := hid (B_6.out.trans (hb_7.out.mono (by omega)))
        have z_7 : u6.heap.size ≤ u7.heap.size := hb_7.out.size
        clear Kr_6 Ks_6 Ko_6 Kw_6 Lr_6 Lo_6 Lw_6 B_6
        clear hb_7
        clear hb
        obtain ⟨qo0, qo1, qo2⟩ := Ko_7.out.three
        obtain ⟨qw0, qw1, qw2⟩ := Kw_7.out.three
        go_wp2_with fail
        refine (sameRound_same om _ Lo_7.out.r1 Lo_7.out.r2 Lw_7.out.r1 Lw_7.out.r2 (by omega) (by omega)).mono ?_
        rintro e u8 ⟨rfl, hb⟩
        clear qo0 qo1 qo2 qw0 qw1 qw2
        have hb_8 := hid hb
        have Kr_8 := hid (Kr_7.out.step hb_8.out)
        have Ks_8 := hid (Ks_7.out.step hb_8.out)
        have Ko_8 := hid (Ko_7.out.step hb_8.out)
        have Kw_8 := hid (Kw_7.out.step hb_8.out)
        have Lr_8 := hid (Lr_7.out.step hb_8.out)
        have Lo_8 := hid (Lo_7.out.step hb_8.out)
        have Lw_8 := hid (Lw_7.out.step hb_8.out)
        have B_8 := hid (B_7.out.trans (hb_8.out.mono (by omega)))
        have z_8 : u7.heap.size ≤ u8.heap.size := hb_8.out.size
        clear Kr_7 Ks_7 Ko_7 Kw_7 Lr_7 Lo_7 Lw_7 B_7
        clear hb_8
        clear hb
        go_wp2
        go_ret
        exact ⟨rfl, B_8.out⟩
      | true =>
        obtain ⟨qo0, qo1, qo2⟩ := Ko_6.out.three
        obtain ⟨qw0, qw1, qw2⟩ := Kw_6.out.three
        go_wp2_with fail
        refine (sameRound_same om _ Lo_6.out.r1 Lo_6.out.r2 Lw_6.out.r1 Lw_6.out.r2 (by omega) (by omega)).mono ?_
        rintro e u7 ⟨rfl, hb⟩
        clear qo0 qo1 qo2 qw0 qw1 qw2
        have hb_7 := hid hb
        have Kr_7 := hid (Kr_6.out.step hb_7.out)
        have Ks_7 := hid (Ks_6.out.step hb_7.out)
        have Ko_7 := hid (Ko_6.out.step hb_7.out)
        have Kw_7 := hid (Kw_6.out.step hb_7.out)
        have Lr_7 := hid (Lr_6.out.step hb_7.out)
        have Lo_7 := hid (Lo_6.out.step hb_7.out)
        have Lw_7 := hid (Lw_6.out.step hb_7.out)
        have B_7 := hid (B_6.out.trans (hb_7.out.mono (by omega)))
        have z_7 : u6.heap.size ≤ u7.heap.size := hb_7.out.size
        clear Kr_6 Ks_6 Ko_6 Kw_6 Lr_6 Lo_6 Lw_6 B_6
        clear hb_7
        clear hb
        clear Kw_7
        clear Lw_7
        go_wp2_with fail
        refine (DrawRoundAdd_any _ (g'.out.belowR B_7.out)).mono ?_
        rintro e u8 ⟨m2, P1, p1, P2, p2, gs2, xs2, tt, tg, rfl, -, -, hb⟩
        have hb_8 := hid hb
        have Kr_8 := hid (Kr_7.out.step hb_8.out)
        have Ks_8 := hid (Ks_7.out.step hb_8.out)
        have Ko_8 := hid (Ko_7.out.step hb_8.out)
        have Lr_8 := hid (Lr_7.out.step hb_8.out)
        have Lo_8 := hid (Lo_7.out.step hb_8.out)
        have B_8 := hid (B_7.out.trans (hb_8.out.mono (by omega)))
        have z_8 : u7.heap.size ≤ u8.heap.size := hb_8.out.size
        clear Kr_7 Ks_7 Ko_7 Lr_7 Lo_7 B_7
        clear hb_8
        clear hb
        go_upto_region 9 with (fail)
        obtain ⟨u9, hu⟩ : ∃ W, ((u8.alloc (.cells #[.int .i64 m2, .slice P1 gs2.length p1, .slice P2 xs2.length p2] 28)).alloc (.cells #[.int .i64 tt, .int .i64 tg] 33)) = W := ⟨_, rfl⟩
        rw [hu]
        have hb : Below u8.heap.size u8 u9 := by rw [← hu]; exact below2 _ _ _
        have hcd : Cs u9 (u8.heap.size) 28 #[.int .i64 m2, .slice P1 gs2.length p1, .slice P2 xs2.length p2] := by rw [← hu]; exact (Cs.new _ _ _).alloc _
        have hct : Cs u9 (u8.heap.size + 1) 33 #[.int .i64 tt, .int .i64 tg] := by rw [← hu]; exact Cs.new' _ _ _ (by simp)
        clear hu
        have hb_9 := hid hb
        have Kr_9 := hid (Kr_8.out.step hb_9.out)
        have Ks_9 := hid (Ks_8.out.step hb_9.out)
        have Ko_9 := hid (Ko_8.out.step hb_9.out)
        have Lr_9 := hid (Lr_8.out.step hb_9.out)
        have Lo_9 := hid (Lo_8.out.step hb_9.out)
        have B_9 := hid (B_8.out.trans (hb_9.out.mono (by omega)))
        have z_9 : u8.heap.size ≤ u9.heap.size := hb_9.out.size
        clear Kr_8 Ks_8 Ko_8 Lr_8 Lo_8 B_8
        clear hb_9
        clear hb
        have Kd_9 := hid hcd
        have yd_9 : u8.heap.size < u9.heap.size := hcd.lt
        clear hcd
        have Kt_9 := hid hct
        have yt_9 : u8.heap.size + 1 < u9.heap.size := hct.lt
        clear hct
        clear Kd_9
        obtain ⟨am, ag, ax, ak, ha⟩ : ∃ am ag ax ak, adR om og ox (tt, tg) = ⟨am, ag, ax, ak⟩ := ⟨_, _, _, _, rfl⟩
        have ha1 := (adR_len ha).1
        have ha2 := (adR_len ha).2
        have ha3 : ag.length ≤ 1048577 := by omega
        have ha4 : ax.length ≤ 1048577 := by omega
        clear ha1 ha2
        replace ha := hid ha
        obtain ⟨bm, bg, bx, bk, hb⟩ : ∃ bm bg bx bk, adR m gs xs (tt, tg) = ⟨bm, bg, bx, bk⟩ := ⟨_, _, _, _, rfl⟩
        have hb1 := (adR_len hb).1
        have hb2 := (adR_len hb).2
        have hb3 : bg.length ≤ 1048577 := by omega
        have hb4 : bx.length ≤ 1048577 := by omega
        clear hb1 hb2
        replace hb := hid hb
        obtain ⟨qo0, qo1, qo2⟩ := Ko_9.out.three
        obtain ⟨qt0, qt1, -, -⟩ := Kt_9.out.two
        go_wp2_with fail
        refine (RoundAdd_implE ha.out _ (Lo_9.out.ow.rd (by omega) (by omega))).mono ?_
        rintro e u10 ⟨Aa, ca, Ea, ea, rfl, oa, hb⟩
        clear qo0 qo1 qo2 qt0 qt1
        have hb_10 := hid hb
        have Kr_10 := hid (Kr_9.out.step hb_10.out)
        have Ks_10 := hid (Ks_9.out.step hb_10.out)
        have Ko_10 := hid (Ko_9.out.step hb_10.out)
        have Kt_10 := hid (Kt_9.out.step hb_10.out)
        have Lr_10 := hid (Lr_9.out.step hb_10.out)
        have Lo_10 := hid (Lo_9.out.step hb_10.out)
        have B_10 := hid (B_9.out.trans (hb_10.out.mono (by omega)))
        have z_10 : u9.heap.size ≤ u10.heap.size := hb_10.out.size
        clear Kr_9 Ks_9 Ko_9 Kt_9 Lr_9 Lo_9 B_9
        clear hb_10
        clear hb
        have La_10 := hid (Lr.of oa)
        clear oa
        go_upto_region 10 with (fail)
        obtain ⟨u11, hu⟩ : ∃ W, (u10.alloc (.cells #[.int .i64 am, .slice Aa ag.length ca, .slice Ea ax.length ea] 28)) = W := ⟨_, rfl⟩
        rw [hu]
        have hb : Below u10.heap.size u10 u11 := by rw [← hu]; exact below1 _ _
        have hca : Cs u11 (u10.heap.size) 28 #[.int .i64 am, .slice Aa ag.length ca, .slice Ea ax.length ea] := by rw [← hu]; exact Cs.new _ _ _
        clear hu
        have hb_11 := hid hb
        have Kr_11 := hid (Kr_10.out.step hb_11.out)
        have Ks_11 := hid (Ks_10.out.step hb_11.out)
        have Ko_11 := hid (Ko_10.out.step hb_11.out)
        have Kt_11 := hid (Kt_10.out.step hb_11.out)
        have Lr_11 := hid (Lr_10.out.step hb_11.out)
        have Lo_11 := hid (Lo_10.out.step hb_11.out)
        have La_11 := hid (La_10.out.step hb_11.out)
        have B_11 := hid (B_10.out.trans (hb_11.out.mono (by omega)))
        have z_11 : u10.heap.size ≤ u11.heap.size := hb_11.out.size
        clear Kr_10 Ks_10 Ko_10 Kt_10 Lr_10 Lo_10 La_10 B_10
        clear hb_11
        clear hb
        have Ka_11 := hid hca
        have ya_11 : u10.heap.size < u11.heap.size := hca.lt
        clear hca
        have hq := hid hb.out
        clear hb
        obtain ⟨qr0, qr1, qr2⟩ := Kr_11.out.three
        obtain ⟨qt0, qt1, -, -⟩ := Kt_11.out.two
        go_wp2_with fail
        refine (RoundAdd_implE hq.out _ (Lr_11.out.ow.rd (by omega) (by omega))).mono ?_
        rintro e u12 ⟨Ab, cb, Eb, eb, rfl, ob, hb⟩
        clear qr0 qr1 qr2 qt0 qt1
        have hb_12 := hid hb
        have Kr_12 := hid (Kr_11.out.step hb_12.out)
        have Ks_12 := hid (Ks_11.out.step hb_12.out)
        have Ko_12 := hid (Ko_11.out.step hb_12.out)
        have Kt_12 := hid (Kt_11.out.step hb_12.out)
        have Ka_12 := hid (Ka_11.out.step hb_12.out)
        have Lr_12 := hid (Lr_11.out.step hb_12.out)
        have Lo_12 := hid (Lo_11.out.step hb_12.out)
        have La_12 := hid (La_11.out.step hb_12.out)
        have B_12 := hid (B_11.out.trans (hb_12.out.mono (by omega)))
        have z_12 : u11.heap.size ≤ u12.heap.size := hb_12.out.size
        clear Kr_11 Ks_11 Ko_11 Kt_11 Ka_11 Lr_11 Lo_11 La_11 B_11
        clear hb_12
        clear hb
        have Lb_12 := hid (Lr.of ob)
        clear ob
        go_upto_region 11 with (fail)
        obtain ⟨u13, hu⟩ : ∃ W, (u12.alloc (.cells #[.int .i64 bm, .slice Ab bg.length cb, .slice Eb bx.length eb] 28)) = W := ⟨_, rfl⟩
        rw [hu]
        have hb : Below u12.heap.size u12 u13 := by rw [← hu]; exact below1 _ _
        have hcb : Cs u13 (u12.heap.size) 28 #[.int .i64 bm, .slice Ab bg.length cb, .slice Eb bx.length eb] := by rw [← hu]; exact Cs.new _ _ _
        clear hu
        have hb_13 := hid hb
        have Kr_13 := hid (Kr_12.out.step hb_13.out)
        have Ks_13 := hid (Ks_12.out.step hb_13.out)
        have Ko_13 := hid (Ko_12.out.step hb_13.out)
        have Kt_13 := hid (Kt_12.out.step hb_13.out)
        have Ka_13 := hid (Ka_12.out.step hb_13.out)
        have Lr_13 := hid (Lr_12.out.step hb_13.out)
        have Lo_13 := hid (Lo_12.out.step hb_13.out)
        have La_13 := hid (La_12.out.step hb_13.out)
        have Lb_13 := hid (Lb_12.out.step hb_13.out)
        have B_13 := hid (B_12.out.trans (hb_13.out.mono (by omega)))
        have z_13 : u12.heap.size ≤ u13.heap.size := hb_13.out.size
        clear Kr_12 Ks_12 Ko_12 Kt_12 Ka_12 Lr_12 Lo_12 La_12 Lb_12 B_12
        clear hb_13
        clear hb
        have Kb_13 := hid hcb
        have yb_13 : u12.heap.size < u13.heap.size := hcb.lt
        clear hcb
        cases ak with
        | false =>
          go_wp2
          go_ret
          exact ⟨rfl, B_13.out⟩
        | true =>
          cases bk with
          | false =>
            go_wp2
            go_ret
            exact ⟨rfl, B_13.out⟩
          | true =>
            have hc := hid (ad_comm hR.out ha.out hq.out)
            obtain ⟨qb0, qb1, qb2⟩ := Kb_13.out.three
            obtain ⟨qs0, qs1, -, -⟩ := Ks_13.out.two
            go_wp2_with fail
            refine (RoundAdd_implE hc.out _ (Lb_13.out.ow.rd (by omega) (by omega))).mono ?_
            rintro e u14 ⟨Af, cf, Ef, ef, rfl, of, hb⟩
            clear qb0 qb1 qb2 qs0 qs1
            have hb_14 := hid hb
            have Kr_14 := hid (Kr_13.out.step hb_14.out)
            have Ks_14 := hid (Ks_13.out.step hb_14.out)
            have Ko_14 := hid (Ko_13.out.step hb_14.out)
            have Kt_14 := hid (Kt_13.out.step hb_14.out)
            have Ka_14 := hid (Ka_13.out.step hb_14.out)
            have Kb_14 := hid (Kb_13.out.step hb_14.out)
            have Lr_14 := hid (Lr_13.out.step hb_14.out)
            have Lo_14 := hid (Lo_13.out.step hb_14.out)
            have La_14 := hid (La_13.out.step hb_14.out)
            have Lb_14 := hid (Lb_13.out.step hb_14.out)
            have B_14 := hid (B_13.out.trans (hb_14.out.mono (by omega)))
            have z_14 : u13.heap.size ≤ u14.heap.size := hb_14.out.size
            clear Kr_13 Ks_13 Ko_13 Kt_13 Ka_13 Kb_13 Lr_13 Lo_13 La_13 Lb_13 B_13
            clear hb_14
            clear hb
            have Lf_14 := hid (Lr.of of)
            clear of
            go_upto_region 14 with (fail)
            obtain ⟨u15, hu⟩ : ∃ W, (u14.alloc (.cells #[.int .i64 am, .slice Af ag.length cf, .slice Ef ax.length ef] 28)) = W := ⟨_, rfl⟩
            rw [hu]
            have hb : Below u14.heap.size u14 u15 := by rw [← hu]; exact below1 _ _
            have hcf : Cs u15 (u14.heap.size) 28 #[.int .i64 am, .slice Af ag.length cf, .slice Ef ax.length ef] := by rw [← hu]; exact Cs.new _ _ _
            clear hu
            have hb_15 := hid hb
            have Kr_15 := hid (Kr_14.out.step hb_15.out)
            have Ks_15 := hid (Ks_14.out.step hb_15.out)
            have Ko_15 := hid (Ko_14.out.step hb_15.out)
            have Kt_15 := hid (Kt_14.out.step hb_15.out)
            have Ka_15 := hid (Ka_14.out.step hb_15.out)
            have Kb_15 := hid (Kb_14.out.step hb_15.out)
            have Lr_15 := hid (Lr_14.out.step hb_15.out)
            have Lo_15 := hid (Lo_14.out.step hb_15.out)
            have La_15 := hid (La_14.out.step hb_15.out)
            have Lb_15 := hid (Lb_14.out.step hb_15.out)
            have Lf_15 := hid (Lf_14.out.step hb_15.out)
            have B_15 := hid (B_14.out.trans (hb_15.out.mono (by omega)))
            have z_15 : u14.heap.size ≤ u15.heap.size := hb_15.out.size
            clear Kr_14 Ks_14 Ko_14 Kt_14 Ka_14 Kb_14 Lr_14 Lo_14 La_14 Lb_14 Lf_14 B_14
            clear hb_15
            clear hb
            have Kf_15 := hid hcf
            have yf_15 : u14.heap.size < u15.heap.size := hcf.lt
            clear hcf
            obtain ⟨qf0, qf1, qf2⟩ := Kf_15.out.three
            obtain ⟨qa0, qa1, qa2⟩ := Ka_15.out.three
            go_wp2_with fail
            refine (sameRound_same am _ Lf_15.out.r1 Lf_15.out.r2 La_15.out.r1 La_15.out.r2 (by omega) (by omega)).mono ?_
            rintro e u16 ⟨rfl, hb⟩
            clear qf0 qf1 qf2 qa0 qa1 qa2
            have hb_16 := hid hb
            have Kr_16 := hid (Kr_15.out.step hb_16.out)
            have Ks_16 := hid (Ks_15.out.step hb_16.out)
            have Ko_16 := hid (Ko_15.out.step hb_16.out)
            have Kt_16 := hid (Kt_15.out.step hb_16.out)
            have Ka_16 := hid (Ka_15.out.step hb_16.out)
            have Kb_16 := hid (Kb_15.out.step hb_16.out)
            have Kf_16 := hid (Kf_15.out.step hb_16.out)
            have Lr_16 := hid (Lr_15.out.step hb_16.out)
            have Lo_16 := hid (Lo_15.out.step hb_16.out)
            have La_16 := hid (La_15.out.step hb_16.out)
            have Lb_16 := hid (Lb_15.out.step hb_16.out)
            have Lf_16 := hid (Lf_15.out.step hb_16.out)
            have B_16 := hid (B_15.out.trans (hb_16.out.mono (by omega)))
            have z_16 : u15.heap.size ≤ u16.heap.size := hb_16.out.size
            clear Kr_15 Ks_15 Ko_15 Kt_15 Ka_15 Kb_15 Kf_15 Lr_15 Lo_15 La_15 Lb_15 Lf_15 B_15
            clear hb_16
            clear hb
            go_wp2
            go_ret
            exact ⟨rfl, B_16.out⟩

theorem lawRoundAddOrder {a : Option Addr} {len cap : Nat} {zs : List Int} {a2 : Option Addr} {len2 cap2 : Nat} {ys : List Int} (w : World) (h : RowIs .u8 w a len cap zs) (g : RowIs .u8 w a2 len2 cap2 ys) :
    Calls Try.prog 6 #[.slice a len cap, .slice a2 len2 cap2] w fun e w' => e = .returned (.bool true) ∧ Below w.heap.size w w' :=
  lawRoundAddOrder_at w w h g (Below.refl _ _) (Nat.le_refl _)
end Go.Proofs.Ytccggcdjajehnaa
