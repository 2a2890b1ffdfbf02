/-
  The walk of the law FnRoundAdd: it returns true, and nothing that was there is written. No condition.
-/
import Derived.Test.YtccggcdjajehnaaRmY
import Derived.Test.YtccggcdjajehnaaRyM
import Derived.Test.YtccggcdjajehnaaRmI
import Derived.Test.YtccggcdjajehnaaRmJ
import Derived.Test.YtccggcdjajehnaaRmK
import Derived.Deep.CutBlock
import Derived.Deep.RegionLaw
import Derived.Deep.RegionHeld3
import Derived.Deep.DeepCutAuto
namespace Go.Proofs.Ytccggcdjajehnaa
open Go.RowKit
set_option linter.unusedVariables false
set_option linter.unusedSimpArgs false


theorem hasInt_asR {B n c : Nat} {A : Option Addr} {zs : List Int} {x : Int} {b : Bool} (h : hasB zs x = b) (w : World) (hr : RdI w B A n zs) (hn : n < 1099511627776) :
    Calls Try.prog 22 #[.slice A n c, .int .i64 x] w fun e w' => e = .returned (.bool b) ∧ w = w' := by
  subst h; exact hasInt_any x w hr hn


set_option maxRecDepth 100000 in
set_option maxHeartbeats 16000000 in
theorem lawRoundAdd_at {a : Option Addr} {len cap : Nat} {zs : List Int} {a2 : Option Addr} {len2 cap2 : Nat} {ys : List Int} (w u0 : World) (h : RowIs .u8 u0 a len cap zs) (g : RowIs .u8 w a2 len2 cap2 ys) (hB0 : Below w.heap.size w u0) (z_0 : w.heap.size ≤ u0.heap.size) :
    Calls Try.prog 4 #[.slice a len cap, .slice a2 len2 cap2] u0 fun e w' => e = .returned (.bool true) ∧ Below w.heap.size w w' := by
  have hl := h.len_leR
  have B_0 := hid hB0
  have h' := hid h
  clear hB0 h
  by_cases hbig : 1048576 < len
  · go_enter Try.func4, Try.ntmps4
    go_wp2
    go_ret
    exact ⟨rfl, B_0.out⟩
  · have gl := g.len_leR
    have g' := hid g
    clear g
    by_cases hbig2 : 1048576 < len2
    · go_enter Try.func4, Try.ntmps4
      go_wp2
      go_ret
      exact ⟨rfl, B_0.out⟩
    · go_enter Try.func4, Try.ntmps4
      go_wp2_with fail
      refine (DrawRoundAdd_any _ h'.out).mono ?_
      rintro e u1 ⟨m, A1, c1, A2, c2, gs, xs, st, sg, rfl, o1, ⟨hl1, hl2⟩, hb⟩
      have hb_1 := hid hb
      have B_1 := hid (B_0.out.trans (hb_1.out.mono (by omega)))
      have z_1 : u0.heap.size ≤ u1.heap.size := hb_1.out.size
      clear  B_0
      clear hb_1
      clear hb
      have Lr_1 := hid (Lr.of o1)
      clear o1
      go_upto_region 4 with (fail)
      obtain ⟨u2, hu⟩ : ∃ W, ((u1.alloc (.cells #[.int .i64 m, .slice A1 gs.length c1, .slice A2 xs.length c2] 28)).alloc (.cells #[.int .i64 st, .int .i64 sg] 33)) = W := ⟨_, rfl⟩
      rw [hu]
      have hb : Below u1.heap.size u1 u2 := by rw [← hu]; exact below2 _ _ _
      have hcr : Cs u2 (u1.heap.size) 28 #[.int .i64 m, .slice A1 gs.length c1, .slice A2 xs.length c2] := by rw [← hu]; exact (Cs.new _ _ _).alloc _
      have hcs : Cs u2 (u1.heap.size + 1) 33 #[.int .i64 st, .int .i64 sg] := by rw [← hu]; exact Cs.new' _ _ _ (by simp)
      clear hu
      have hb_2 := hid hb
      have Lr_2 := hid (Lr_1.out.step hb_2.out)
      have B_2 := hid (B_1.out.trans (hb_2.out.mono (by omega)))
      have z_2 : u1.heap.size ≤ u2.heap.size := hb_2.out.size
      clear Lr_1 B_1
      clear hb_2
      clear hb
      have Kr_2 := hid hcr
      have yr_2 : u1.heap.size < u2.heap.size := hcr.lt
      clear hcr
      have Ks_2 := hid hcs
      have ys_2 : u1.heap.size + 1 < u2.heap.size := hcs.lt
      clear hcs
      obtain ⟨om, og, ox, ok, hR⟩ : ∃ om og ox ok, adR m gs xs (st, sg) = ⟨om, og, ox, ok⟩ := ⟨_, _, _, _, rfl⟩
      have hol := (adR_len hR).1
      have hxl := (adR_len hR).2
      have hol9 : og.length ≤ 1048576 := by omega
      have hxl9 : ox.length ≤ 1048576 := by omega
      clear hol hxl
      replace hR := hid hR
      obtain ⟨qr0, qr1, qr2⟩ := Kr_2.out.three
      obtain ⟨qs0, qs1, -, -⟩ := Ks_2.out.two
      go_wp2_with fail
      refine (RoundAdd_implE hR.out _ (Lr_2.out.ow.rd (by omega) (by omega))).mono ?_
      rintro e u3 ⟨Ao, co, Eo, eo, rfl, oo, hb⟩
      clear qr0 qr1 qr2 qs0 qs1
      have hb_3 := hid hb
      have Kr_3 := hid (Kr_2.out.step hb_3.out)
      have Ks_3 := hid (Ks_2.out.step hb_3.out)
      have Lr_3 := hid (Lr_2.out.step hb_3.out)
      have B_3 := hid (B_2.out.trans (hb_3.out.mono (by omega)))
      have z_3 : u2.heap.size ≤ u3.heap.size := hb_3.out.size
      clear Kr_2 Ks_2 Lr_2 B_2
      clear hb_3
      clear hb
      have Lo_3 := hid (Lr.of oo)
      clear oo
      go_upto_region 5 with (fail)
      obtain ⟨u4, hu⟩ : ∃ W, (u3.alloc (.cells #[.int .i64 om, .slice Ao og.length co, .slice Eo ox.length eo] 28)) = W := ⟨_, rfl⟩
      rw [hu]
      have hb : Below u3.heap.size u3 u4 := by rw [← hu]; exact below1 _ _
      have hco : Cs u4 (u3.heap.size) 28 #[.int .i64 om, .slice Ao og.length co, .slice Eo ox.length eo] := by rw [← hu]; exact Cs.new _ _ _
      clear hu
      have hb_4 := hid hb
      have Kr_4 := hid (Kr_3.out.step hb_4.out)
      have Ks_4 := hid (Ks_3.out.step hb_4.out)
      have Lr_4 := hid (Lr_3.out.step hb_4.out)
      have Lo_4 := hid (Lo_3.out.step hb_4.out)
      have B_4 := hid (B_3.out.trans (hb_4.out.mono (by omega)))
      have z_4 : u3.heap.size ≤ u4.heap.size := hb_4.out.size
      clear Kr_3 Ks_3 Lr_3 Lo_3 B_3
      clear hb_4
      clear hb
      have Ko_4 := hid hco
      have yo_4 : u3.heap.size < u4.heap.size := hco.lt
      clear hco
      obtain ⟨qr0, qr1, qr2⟩ := Kr_4.out.three
      obtain ⟨qs0, qs1, -, -⟩ := Ks_4.out.two
      go_wp2_with fail
      refine (RoundAdd_specE hR.out _ (Lr_4.out.ow.rd (by omega) (by omega))).mono ?_
      rintro e u5 ⟨Aw, cw, Ew, ew, rfl, ow, hb⟩
      clear qr0 qr1 qr2 qs0 qs1
      have hb_5 := hid hb
      have Kr_5 := hid (Kr_4.out.step hb_5.out)
      have Ks_5 := hid (Ks_4.out.step hb_5.out)
      have Ko_5 := hid (Ko_4.out.step hb_5.out)
      have Lr_5 := hid (Lr_4.out.step hb_5.out)
      have Lo_5 := hid (Lo_4.out.step hb_5.out)
      have B_5 := hid (B_4.out.trans (hb_5.out.mono (by omega)))
      have z_5 : u4.heap.size ≤ u5.heap.size := hb_5.out.size
      clear Kr_4 Ks_4 Ko_4 Lr_4 Lo_4 B_4
      clear hb_5
      clear hb
      have Lw_5 := hid (Lr.of ow)
      clear ow
      go_upto_region 6 with (fail)
      obtain ⟨u6, hu⟩ : ∃ W, (u5.alloc (.cells #[.int .i64 om, .slice Aw og.length cw, .slice Ew ox.length ew] 28)) = W := ⟨_, rfl⟩
      rw [hu]
      have hb : Below u5.heap.size u5 u6 := by rw [← hu]; exact below1 _ _
      have hcw : Cs u6 (u5.heap.size) 28 #[.int .i64 om, .slice Aw og.length cw, .slice Ew ox.length ew] := by rw [← hu]; exact Cs.new _ _ _
      clear hu
      have hb_6 := hid hb
      have Kr_6 := hid (Kr_5.out.step hb_6.out)
      have Ks_6 := hid (Ks_5.out.step hb_6.out)
      have Ko_6 := hid (Ko_5.out.step hb_6.out)
      have Lr_6 := hid (Lr_5.out.step hb_6.out)
      have Lo_6 := hid (Lo_5.out.step hb_6.out)
      have Lw_6 := hid (Lw_5.out.step hb_6.out)
      have B_6 := hid (B_5.out.trans (hb_6.out.mono (by omega)))
      have z_6 : u5.heap.size ≤ u6.heap.size := hb_6.out.size
      clear Kr_5 Ks_5 Ko_5 Lr_5 Lo_5 Lw_5 B_5
      clear hb_6
      clear hb
      have Kw_6 := hid hcw
      have yw_6 : u5.heap.size < u6.heap.size := hcw.lt
      clear hcw
      cases ok with
      | false =>
        obtain ⟨qo0, qo1, qo2⟩ := Ko_6.out.three
        obtain ⟨qw0, qw1, qw2⟩ := Kw_6.out.three
        go_wp2_with fail
        refine (sameRound_same om _ Lo_6.out.r1 Lo_6.out.r2 Lw_6.out.r1 Lw_6.out.r2 (by omega) (by omega)).mono ?_
        rintro e u7 ⟨rfl, hb⟩
        clear qo0 qo1 qo2 qw0 qw1 qw2
        have hb_7 := hid hb
        have Kr_7 := hid (Kr_6.out.step hb_7.out)
        have Ks_7 := hid (Ks_6.out.step hb_7.out)
        have Ko_7 := hid (Ko_6.out.step hb_7.out)
        have Kw_7 := hid (Kw_6.out.step hb_7.out)
        have Lr_7 := hid (Lr_6.out.step hb_7.out)
        have Lo_7 := hid (Lo_6.out.step hb_7.out)
        have Lw_7 := hid (Lw_6.out.step hb_7.out)
        have B_7 := hid (B_6.out.trans (hb_7.out.mono (by omega)))
        have z_7 : u6.heap.size ≤ u7.heap.size := hb_7.out.size
        clear Kr_6 Ks_6 Ko_6 Kw_6 Lr_6 Lo_6 Lw_6 B_6
        clear hb_7
        clear hb
        obtain ⟨qo0, qo1, qo2⟩ := Ko_7.out.three
        obtain ⟨qw0, qw1, qw2⟩ := Kw_7.out.three
        go_wp2_with fail
        refine (sameRound_same om _ Lo_7.out.r1 Lo_7.out.r2 Lw_7.out.r1 Lw_7.out.r2 (by omega) (by omega)).mono ?_
        rintro e u8 ⟨rfl, hb⟩
        clear qo0 qo1 qo2 qw0 qw1 qw2
        have hb_8 := hid hb
        have Kr_8 := hid (Kr_7.out.step hb_8.out)
        have Ks_8 := hid (Ks_7.out.step hb_8.out)
        have Ko_8 := hid (Ko_7.out.step hb_8.out)
        have Kw_8 := hid (Kw_7.out.step hb_8.out)
        have Lr_8 := hid (Lr_7.out.step hb_8.out)
        have Lo_8 := hid (Lo_7.out.step hb_8.out)
        have Lw_8 := hid (Lw_7.out.step hb_8.out)
        have B_8 := hid (B_7.out.trans (hb_8.out.mono (by omega)))
        have z_8 : u7.heap.size ≤ u8.heap.size := hb_8.out.size
        clear Kr_7 Ks_7 Ko_7 Kw_7 Lr_7 Lo_7 Lw_7 B_7
        clear hb_8
        clear hb
        go_wp2
        go_ret
        exact ⟨rfl, B_8.out⟩
      | true =>
        obtain ⟨qo0, qo1, qo2⟩ := Ko_6.out.three
        obtain ⟨qw0, qw1, qw2⟩ := Kw_6.out.three
        go_wp2_with fail
        refine (sameRound_same om _ Lo_6.out.r1 Lo_6.out.r2 Lw_6.out.r1 Lw_6.out.r2 (by omega) (by omega)).mono ?_
        rintro e u7 ⟨rfl, hb⟩
        clear qo0 qo1 qo2 qw0 qw1 qw2
        have hb_7 := hid hb
        have Kr_7 := hid (Kr_6.out.step hb_7.out)
        have Ks_7 := hid (Ks_6.out.step hb_7.out)
        have Ko_7 := hid (Ko_6.out.step hb_7.out)
        have Kw_7 := hid (Kw_6.out.step hb_7.out)
        have Lr_7 := hid (Lr_6.out.step hb_7.out)
        have Lo_7 := hid (Lo_6.out.step hb_7.out)
        have Lw_7 := hid (Lw_6.out.step hb_7.out)
        have B_7 := hid (B_6.out.trans (hb_7.out.mono (by omega)))
        have z_7 : u6.heap.size ≤ u7.heap.size := hb_7.out.size
        clear Kr_6 Ks_6 Ko_6 Kw_6 Lr_6 Lo_6 Lw_6 B_6
        clear hb_7
        clear hb
        clear Kw_7
        clear Lw_7
        have hs0 := (ad_true hR.out).2.2.2.2.1
        have ht0 : okS (1 + (len2 : Int) % 9, sg) = true := by
          rw [okS_iff] at hs0 ⊢
          simp only at hs0 ⊢
          omega
        obtain ⟨hR2, hvo, hho, hhr⟩ := ad_twice hR.out ht0 rfl
        simp only at hho hhr
        clear hs0 ht0
        obtain ⟨M, hM⟩ : ∃ M, misR om og ox = M := ⟨_, rfl⟩
        have hml := misR_len hM
        rw [hM] at hho
        obtain ⟨Z, hZ⟩ : ∃ Z, misR m gs xs = Z := ⟨_, rfl⟩
        have hzl := misR_len hZ
        rw [hZ] at hhr
        replace hR2 := hid hR2
        replace hvo := hid hvo
        replace hho := hid hho
        replace hhr := hid hhr
        replace hM := hid hM
        replace hZ := hid hZ
        obtain ⟨qs0, qs1, -, -⟩ := Ks_7.out.two
        go_upto_region 9 with (fail)
        obtain ⟨u8, hu⟩ : ∃ W, (u7.alloc (.cells #[.int .i64 (1 + (len2 : Int) % 9), .int .i64 sg] 33)) = W := ⟨_, rfl⟩
        rw [hu]
        have hb : Below u7.heap.size u7 u8 := by rw [← hu]; exact below1 _ _
        have hct : Cs u8 (u7.heap.size) 33 #[.int .i64 (1 + (len2 : Int) % 9), .int .i64 sg] := by rw [← hu]; exact Cs.new _ _ _
        clear hu
        have hb_8 := hid hb
        have Kr_8 := hid (Kr_7.out.step hb_8.out)
        have Ks_8 := hid (Ks_7.out.step hb_8.out)
        have Ko_8 := hid (Ko_7.out.step hb_8.out)
        have Lr_8 := hid (Lr_7.out.step hb_8.out)
        have Lo_8 := hid (Lo_7.out.step hb_8.out)
        have B_8 := hid (B_7.out.trans (hb_8.out.mono (by omega)))
        have z_8 : u7.heap.size ≤ u8.heap.size := hb_8.out.size
        clear Kr_7 Ks_7 Ko_7 Lr_7 Lo_7 B_7
        clear hb_8
        clear hb
        have Kt_8 := hid hct
        have yt_8 : u7.heap.size < u8.heap.size := hct.lt
        clear hct
        clear qs0 qs1
        obtain ⟨qo0, qo1, qo2⟩ := Ko_8.out.three
        obtain ⟨qt0, qt1, -, -⟩ := Kt_8.out.two
        go_wp2_with fail
        refine (RoundAdd_implE hR2.out _ (Lo_8.out.ow.rd (by omega) (by omega))).mono ?_
        rintro e u9 ⟨Ay, cy, Ey, ey, rfl, oy, hb⟩
        clear qo0 qo1 qo2 qt0 qt1
        have hb_9 := hid hb
        have Kr_9 := hid (Kr_8.out.step hb_9.out)
        have Ks_9 := hid (Ks_8.out.step hb_9.out)
        have Ko_9 := hid (Ko_8.out.step hb_9.out)
        have Kt_9 := hid (Kt_8.out.step hb_9.out)
        have Lr_9 := hid (Lr_8.out.step hb_9.out)
        have Lo_9 := hid (Lo_8.out.step hb_9.out)
        have B_9 := hid (B_8.out.trans (hb_9.out.mono (by omega)))
        have z_9 : u8.heap.size ≤ u9.heap.size := hb_9.out.size
        clear Kr_8 Ks_8 Ko_8 Kt_8 Lr_8 Lo_8 B_8
        clear hb_9
        clear hb
        have Ly_9 := hid (Lr.of oy)
        clear oy
        go_upto_region 10 with (fail)
        obtain ⟨u10, hu⟩ : ∃ W, (u9.alloc (.cells #[.int .i64 om, .slice Ay og.length cy, .slice Ey ox.length ey] 28)) = W := ⟨_, rfl⟩
        rw [hu]
        have hb : Below u9.heap.size u9 u10 := by rw [← hu]; exact below1 _ _
        have hcy : Cs u10 (u9.heap.size) 28 #[.int .i64 om, .slice Ay og.length cy, .slice Ey ox.length ey] := by rw [← hu]; exact Cs.new _ _ _
        clear hu
        have hb_10 := hid hb
        have Kr_10 := hid (Kr_9.out.step hb_10.out)
        have Ks_10 := hid (Ks_9.out.step hb_10.out)
        have Ko_10 := hid (Ko_9.out.step hb_10.out)
        have Kt_10 := hid (Kt_9.out.step hb_10.out)
        have Lr_10 := hid (Lr_9.out.step hb_10.out)
        have Lo_10 := hid (Lo_9.out.step hb_10.out)
        have Ly_10 := hid (Ly_9.out.step hb_10.out)
        have B_10 := hid (B_9.out.trans (hb_10.out.mono (by omega)))
        have z_10 : u9.heap.size ≤ u10.heap.size := hb_10.out.size
        clear Kr_9 Ks_9 Ko_9 Kt_9 Lr_9 Lo_9 Ly_9 B_9
        clear hb_10
        clear hb
        have Ky_10 := hid hcy
        have yy_10 : u9.heap.size < u10.heap.size := hcy.lt
        clear hcy
        clear Kt_10
        have hd := hid (Below.refl u10.heap.size u10).drew
        have Kr_d := hid (Kr_10.out.step hd.out)
        have Ks_d := hid (Ks_10.out.step hd.out)
        have Ko_d := hid (Ko_10.out.step hd.out)
        have Ky_d := hid (Ky_10.out.step hd.out)
        have Lr_d := hid (Lr_10.out.step hd.out)
        have Lo_d := hid (Lo_10.out.step hd.out)
        have Ly_d := hid (Ly_10.out.step hd.out)
        have B_d := hid (B_10.out.trans (hd.out.mono (by omega)))
        have z_d : u10.heap.size ≤ u10.drew.heap.size := hd.out.size
        clear hd
        obtain ⟨qo0, qo1, qo2⟩ := Ko_10.out.three
        obtain ⟨qr0, qr1, qr2⟩ := Kr_10.out.three
        obtain ⟨qs0, qs1, -, -⟩ := Ks_10.out.two
        obtain ⟨qy0, qy1, qy2⟩ := Ky_10.out.three
        go_wp2_with fail
        go_region_law (go_simp; (first | (go_at_call 18; (with_reducible refine (RoundMissing_impl hM.out _ (Lo_d.out.ow.rd (by omega) (by omega))).mono ?_); rintro e xe ⟨AM, cM, rfl, oM, hb⟩; have Kr_e := hid (Kr_d.out.step hb); have Ks_e := hid (Ks_d.out.step hb); have Ko_e := hid (Ko_d.out.step hb); have Ky_e := hid (Ky_d.out.step hb); have Lr_e := hid (Lr_d.out.step hb); have Lo_e := hid (Lo_d.out.step hb); have Ly_e := hid (Ly_d.out.step hb); have B_e := hid (B_d.out.trans (hb.mono (by omega))); have z_e := hb.size; have NM_e := hid (Lv.ofI oM); clear oM; obtain ⟨oe0, oe1, oe2⟩ := Ko_e.out.three; obtain ⟨re0, re1, re2⟩ := Kr_e.out.three; obtain ⟨se0, se1, -, -⟩ := Ks_e.out.two; obtain ⟨ye0, ye1, ye2⟩ := Ky_e.out.three; clear hb) | (go_at_call 22; (with_reducible refine (hasInt_asR hho.out _ NM_e.out.at_ (by omega)).mono ?_); rintro e x9 ⟨rfl, rfl⟩) | (go_at_call 18; (with_reducible refine (RoundMissing_impl hZ.out _ (Lr_e.out.ow.rd (by omega) (by omega))).mono ?_); rintro e xf ⟨AZ, cZ, rfl, oZ, hb⟩; have Kr_f := hid (Kr_e.out.step hb); have Ks_f := hid (Ks_e.out.step hb); have Ko_f := hid (Ko_e.out.step hb); have Ky_f := hid (Ky_e.out.step hb); have Lr_f := hid (Lr_e.out.step hb); have Lo_f := hid (Lo_e.out.step hb); have Ly_f := hid (Ly_e.out.step hb); have NM_f := hid (NM_e.out.step hb); have B_f := hid (B_e.out.trans (hb.mono (by omega))); have z_f := hb.size; have NZ_f := hid (Lv.ofI oZ); clear oZ; obtain ⟨of0, of1, of2⟩ := Ko_f.out.three; obtain ⟨rf0, rf1, rf2⟩ := Kr_f.out.three; obtain ⟨sf0, sf1, -, -⟩ := Ks_f.out.two; obtain ⟨yf0, yf1, yf2⟩ := Ky_f.out.three; clear hb) | (go_at_call 22; (with_reducible refine (hasInt_asR hhr.out _ NZ_f.out.at_ (by omega)).mono ?_); rintro e x9 ⟨rfl, rfl⟩) | (go_at_call 14; (with_reducible refine (sameRound_same _ _ Ly_f.out.r1 Ly_f.out.r2 Lo_f.out.r1 Lo_f.out.r2 (by omega) (by omega)).mono ?_); rintro e xg ⟨rfl, hb⟩; have Kr_g := hid (Kr_f.out.step hb); have Ks_g := hid (Ks_f.out.step hb); have Ko_g := hid (Ko_f.out.step hb); have Ky_g := hid (Ky_f.out.step hb); have Lr_g := hid (Lr_f.out.step hb); have Lo_g := hid (Lo_f.out.step hb); have Ly_g := hid (Ly_f.out.step hb); have NM_g := hid (NM_f.out.step hb); have NZ_g := hid (NZ_f.out.step hb); have B_g := hid (B_f.out.trans (hb.mono (by omega))); have z_g := hb.size; obtain ⟨og0, og1, og2⟩ := Ko_g.out.three; obtain ⟨rg0, rg1, rg2⟩ := Kr_g.out.three; obtain ⟨sg0, sg1, -, -⟩ := Ks_g.out.two; obtain ⟨yg0, yg1, yg2⟩ := Ky_g.out.three; clear hb) | (go_at_call 16; (with_reducible refine (RoundValid_impl hvo.out _ (Lo_g.out.ow.rd (by omega) (by omega))).mono ?_); rintro e xh ⟨rfl, hb⟩; have Kr_h := hid (Kr_g.out.step hb); have Ks_h := hid (Ks_g.out.step hb); have Ko_h := hid (Ko_g.out.step hb); have Ky_h := hid (Ky_g.out.step hb); have Lr_h := hid (Lr_g.out.step hb); have Lo_h := hid (Lo_g.out.step hb); have Ly_h := hid (Ly_g.out.step hb); have NM_h := hid (NM_g.out.step hb); have NZ_h := hid (NZ_g.out.step hb); have B_h := hid (B_g.out.trans (hb.mono (by omega))); have z_h := hb.size; obtain ⟨oh0, oh1, oh2⟩ := Ko_h.out.three; obtain ⟨rh0, rh1, rh2⟩ := Kr_h.out.three; obtain ⟨sh0, sh1, -, -⟩ := Ks_h.out.two; obtain ⟨yh0, yh1, yh2⟩ := Ky_h.out.three; clear hb)))
        all_goals
          go_wp2
          go_ret
          exact ⟨rfl, B_h.out⟩

theorem lawRoundAdd {a : Option Addr} {len cap : Nat} {zs : List Int} {a2 : Option Addr} {len2 cap2 : Nat} {ys : List Int} (w : World) (h : RowIs .u8 w a len cap zs) (g : RowIs .u8 w a2 len2 cap2 ys) :
    Calls Try.prog 4 #[.slice a len cap, .slice a2 len2 cap2] w fun e w' => e = .returned (.bool true) ∧ Below w.heap.size w w' :=
  lawRoundAdd_at w w h g (Below.refl _ _) (Nat.le_refl _)
end Go.Proofs.Ytccggcdjajehnaa
