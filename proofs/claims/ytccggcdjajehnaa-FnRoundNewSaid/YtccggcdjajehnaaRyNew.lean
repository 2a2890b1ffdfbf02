/-
  The walk of the law FnRoundNew: it returns true, and nothing that was there is written. No condition.
-/
import Derived.Test.YtccggcdjajehnaaRmY
import Derived.Test.YtccggcdjajehnaaRyM
import Derived.Test.YtccggcdjajehnaaRmJ
import Derived.Deep.CutBlock
import Derived.Deep.RegionLaw
import Derived.Deep.RegionHeld3
import Derived.Deep.DeepCutAuto
namespace Go.Proofs.Ytccggcdjajehnaa
open Go.RowKit
set_option linter.unusedVariables false
set_option linter.unusedSimpArgs false



set_option maxRecDepth 100000 in
set_option maxHeartbeats 16000000 in
theorem lawRoundNew_at {a : Option Addr} {len cap : Nat} {zs : List Int} (w u0 : World) (h : RowIs .u8 u0 a len cap zs) (hB0 : Below w.heap.size w u0) (z_0 : w.heap.size ≤ u0.heap.size) :
    Calls Try.prog 3 #[.slice a len cap] u0 fun e w' => e = .returned (.bool true) ∧ Below w.heap.size w w' := by
  have hl := h.len_leR
  have B_0 := hid hB0
  have h' := hid h
  clear hB0 h
  by_cases hbig : 1048576 < len
  · go_enter Try.func3, Try.ntmps3
    go_wp2
    go_ret
    exact ⟨rfl, B_0.out⟩
  · go_enter Try.func3, Try.ntmps3
    go_wp2_with fail
    refine (DrawRoundNew_any _ h'.out).mono ?_
    rintro e u1 ⟨m, A, c, gs, rfl, og_, hl6, hb⟩
    have hb_1 := hid hb
    have B_1 := hid (B_0.out.trans (hb_1.out.mono (by omega)))
    have z_1 : u0.heap.size ≤ u1.heap.size := hb_1.out.size
    clear  B_0
    clear hb_1
    clear hb
    have NG_1 := hid (Lv.ofI og_)
    clear og_
    obtain ⟨om, og, ox, ok, hR⟩ : ∃ om og ox ok, nwRo m gs = ⟨om, og, ox, ok⟩ := ⟨_, _, _, _, rfl⟩
    have hol := (nwRo_len hR).1
    have hxl := (nwRo_len hR).2
    have hol9 : og.length ≤ 1048576 := by omega
    have hxl9 : ox.length ≤ 1048576 := by omega
    clear hol hxl
    replace hR := hid hR
    go_wp2_with fail
    refine (RoundNew_implE hR.out _ NG_1.out.at_ (by omega)).mono ?_
    rintro e u2 ⟨Ao, co, Eo, eo, rfl, oo, hb⟩
    have hb_2 := hid hb
    have NG_2 := hid (NG_1.out.step hb_2.out)
    have B_2 := hid (B_1.out.trans (hb_2.out.mono (by omega)))
    have z_2 : u1.heap.size ≤ u2.heap.size := hb_2.out.size
    clear NG_1 B_1
    clear hb_2
    clear hb
    have Lo_2 := hid (Lr.of oo)
    clear oo
    go_upto_region 5 with (fail)
    obtain ⟨u3, hu⟩ : ∃ W, (u2.alloc (.cells #[.int .i64 om, .slice Ao og.length co, .slice Eo ox.length eo] 28)) = W := ⟨_, rfl⟩
    rw [hu]
    have hb : Below u2.heap.size u2 u3 := by rw [← hu]; exact below1 _ _
    have hco : Cs u3 (u2.heap.size) 28 #[.int .i64 om, .slice Ao og.length co, .slice Eo ox.length eo] := by rw [← hu]; exact Cs.new _ _ _
    clear hu
    have hb_3 := hid hb
    have Lo_3 := hid (Lo_2.out.step hb_3.out)
    have NG_3 := hid (NG_2.out.step hb_3.out)
    have B_3 := hid (B_2.out.trans (hb_3.out.mono (by omega)))
    have z_3 : u2.heap.size ≤ u3.heap.size := hb_3.out.size
    clear Lo_2 NG_2 B_2
    clear hb_3
    clear hb
    have Ko_3 := hid hco
    have yo_3 : u2.heap.size < u3.heap.size := hco.lt
    clear hco
    go_wp2_with fail
    refine (RoundNew_specE hR.out _ NG_3.out.at_ (by omega)).mono ?_
    rintro e u4 ⟨Aw, cw, Ew, ew, rfl, ow, hb⟩
    have hb_4 := hid hb
    have Ko_4 := hid (Ko_3.out.step hb_4.out)
    have Lo_4 := hid (Lo_3.out.step hb_4.out)
    have NG_4 := hid (NG_3.out.step hb_4.out)
    have B_4 := hid (B_3.out.trans (hb_4.out.mono (by omega)))
    have z_4 : u3.heap.size ≤ u4.heap.size := hb_4.out.size
    clear Ko_3 Lo_3 NG_3 B_3
    clear hb_4
    clear hb
    have Lw_4 := hid (Lr.of ow)
    clear ow
    go_upto_region 6 with (fail)
    obtain ⟨u5, hu⟩ : ∃ W, (u4.alloc (.cells #[.int .i64 om, .slice Aw og.length cw, .slice Ew ox.length ew] 28)) = W := ⟨_, rfl⟩
    rw [hu]
    have hb : Below u4.heap.size u4 u5 := by rw [← hu]; exact below1 _ _
    have hcw : Cs u5 (u4.heap.size) 28 #[.int .i64 om, .slice Aw og.length cw, .slice Ew ox.length ew] := by rw [← hu]; exact Cs.new _ _ _
    clear hu
    have hb_5 := hid hb
    have Ko_5 := hid (Ko_4.out.step hb_5.out)
    have Lo_5 := hid (Lo_4.out.step hb_5.out)
    have Lw_5 := hid (Lw_4.out.step hb_5.out)
    have NG_5 := hid (NG_4.out.step hb_5.out)
    have B_5 := hid (B_4.out.trans (hb_5.out.mono (by omega)))
    have z_5 : u4.heap.size ≤ u5.heap.size := hb_5.out.size
    clear Ko_4 Lo_4 Lw_4 NG_4 B_4
    clear hb_5
    clear hb
    have Kw_5 := hid hcw
    have yw_5 : u4.heap.size < u5.heap.size := hcw.lt
    clear hcw
    cases ok with
    | false =>
      obtain ⟨qo0, qo1, qo2⟩ := Ko_5.out.three
      obtain ⟨qw0, qw1, qw2⟩ := Kw_5.out.three
      go_wp2_with fail
      refine (sameRound_same om _ Lo_5.out.r1 Lo_5.out.r2 Lw_5.out.r1 Lw_5.out.r2 (by omega) (by omega)).mono ?_
      rintro e u6 ⟨rfl, hb⟩
      clear qo0 qo1 qo2 qw0 qw1 qw2
      have hb_6 := hid hb
      have Ko_6 := hid (Ko_5.out.step hb_6.out)
      have Kw_6 := hid (Kw_5.out.step hb_6.out)
      have Lo_6 := hid (Lo_5.out.step hb_6.out)
      have Lw_6 := hid (Lw_5.out.step hb_6.out)
      have NG_6 := hid (NG_5.out.step hb_6.out)
      have B_6 := hid (B_5.out.trans (hb_6.out.mono (by omega)))
      have z_6 : u5.heap.size ≤ u6.heap.size := hb_6.out.size
      clear Ko_5 Kw_5 Lo_5 Lw_5 NG_5 B_5
      clear hb_6
      clear hb
      obtain ⟨qo0, qo1, qo2⟩ := Ko_6.out.three
      obtain ⟨qw0, qw1, qw2⟩ := Kw_6.out.three
      go_wp2_with fail
      refine (sameRound_same om _ Lo_6.out.r1 Lo_6.out.r2 Lw_6.out.r1 Lw_6.out.r2 (by omega) (by omega)).mono ?_
      rintro e u7 ⟨rfl, hb⟩
      clear qo0 qo1 qo2 qw0 qw1 qw2
      have hb_7 := hid hb
      have Ko_7 := hid (Ko_6.out.step hb_7.out)
      have Kw_7 := hid (Kw_6.out.step hb_7.out)
      have Lo_7 := hid (Lo_6.out.step hb_7.out)
      have Lw_7 := hid (Lw_6.out.step hb_7.out)
      have NG_7 := hid (NG_6.out.step hb_7.out)
      have B_7 := hid (B_6.out.trans (hb_7.out.mono (by omega)))
      have z_7 : u6.heap.size ≤ u7.heap.size := hb_7.out.size
      clear Ko_6 Kw_6 Lo_6 Lw_6 NG_6 B_6
      clear hb_7
      clear hb
      go_wp2
      go_ret
      exact ⟨rfl, B_7.out⟩
    | true =>
      obtain ⟨hv, hM, hO, hF⟩ := nw_true hR.out
      replace hv := hid hv
      replace hM := hid hM
      replace hO := hid hO
      replace hF := hid hF
      obtain ⟨qo0, qo1, qo2⟩ := Ko_5.out.three
      obtain ⟨qw0, qw1, qw2⟩ := Kw_5.out.three
      go_wp2_with fail
      refine (sameRound_same om _ Lo_5.out.r1 Lo_5.out.r2 Lw_5.out.r1 Lw_5.out.r2 (by omega) (by omega)).mono ?_
      rintro e u6 ⟨rfl, hb⟩
      clear qo0 qo1 qo2 qw0 qw1 qw2
      have hb_6 := hid hb
      have Ko_6 := hid (Ko_5.out.step hb_6.out)
      have Kw_6 := hid (Kw_5.out.step hb_6.out)
      have Lo_6 := hid (Lo_5.out.step hb_6.out)
      have Lw_6 := hid (Lw_5.out.step hb_6.out)
      have NG_6 := hid (NG_5.out.step hb_6.out)
      have B_6 := hid (B_5.out.trans (hb_6.out.mono (by omega)))
      have z_6 : u5.heap.size ≤ u6.heap.size := hb_6.out.size
      clear Ko_5 Kw_5 Lo_5 Lw_5 NG_5 B_5
      clear hb_6
      clear hb
      clear Kw_6
      clear Lw_6
      obtain ⟨qo0, qo1, qo2⟩ := Ko_6.out.three
      go_wp2_with fail
      refine (RoundFinal_impl hF.out hO.out _ (Lo_6.out.ow.rd (by omega) (by omega))).mono ?_
      rintro e u7 ⟨rfl, hb⟩
      clear qo0 qo1 qo2
      have hb_7 := hid hb
      have Ko_7 := hid (Ko_6.out.step hb_7.out)
      have Lo_7 := hid (Lo_6.out.step hb_7.out)
      have NG_7 := hid (NG_6.out.step hb_7.out)
      have B_7 := hid (B_6.out.trans (hb_7.out.mono (by omega)))
      have z_7 : u6.heap.size ≤ u7.heap.size := hb_7.out.size
      clear Ko_6 Lo_6 NG_6 B_6
      clear hb_7
      clear hb
      go_upto_region 9 with (fail)
      obtain ⟨u8, hu⟩ : ∃ W, (u7.alloc (.cells #[.int .i64 0, .int .i64 0] 33)) = W := ⟨_, rfl⟩
      rw [hu]
      have hb : Below u7.heap.size u7 u8 := by rw [← hu]; exact below1 _ _
      have hct : Cs u8 (u7.heap.size) 33 #[.int .i64 0, .int .i64 0] := by rw [← hu]; exact Cs.new _ _ _
      clear hu
      have hb_8 := hid hb
      have Ko_8 := hid (Ko_7.out.step hb_8.out)
      have Lo_8 := hid (Lo_7.out.step hb_8.out)
      have NG_8 := hid (NG_7.out.step hb_8.out)
      have B_8 := hid (B_7.out.trans (hb_8.out.mono (by omega)))
      have z_8 : u7.heap.size ≤ u8.heap.size := hb_8.out.size
      clear Ko_7 Lo_7 NG_7 B_7
      clear hb_8
      clear hb
      have Kt_8 := hid hct
      have yt_8 : u7.heap.size < u8.heap.size := hct.lt
      clear hct
      clear Kt_8
      obtain ⟨qo0, qo1, qo2⟩ := Ko_8.out.three
      go_wp2_with fail
      refine (RoundValid_impl hv.out _ (Lo_8.out.ow.rd (by omega) (by omega))).mono ?_
      rintro e u9 ⟨rfl, hb⟩
      clear qo0 qo1 qo2
      have hb_9 := hid hb
      have Ko_9 := hid (Ko_8.out.step hb_9.out)
      have Lo_9 := hid (Lo_8.out.step hb_9.out)
      have NG_9 := hid (NG_8.out.step hb_9.out)
      have B_9 := hid (B_8.out.trans (hb_9.out.mono (by omega)))
      have z_9 : u8.heap.size ≤ u9.heap.size := hb_9.out.size
      clear Ko_8 Lo_8 NG_8 B_8
      clear hb_9
      clear hb
      obtain ⟨qo0, qo1, qo2⟩ := Ko_9.out.three
      go_wp2_with fail
      refine (RoundMissing_impl hM.out _ (Lo_9.out.ow.rd (by omega) (by omega))).mono ?_
      rintro e u10 ⟨AM, cM, rfl, oM, hb⟩
      clear qo0 qo1 qo2
      have hb_10 := hid hb
      have Ko_10 := hid (Ko_9.out.step hb_10.out)
      have Lo_10 := hid (Lo_9.out.step hb_10.out)
      have NG_10 := hid (NG_9.out.step hb_10.out)
      have B_10 := hid (B_9.out.trans (hb_10.out.mono (by omega)))
      have z_10 : u9.heap.size ≤ u10.heap.size := hb_10.out.size
      clear Ko_9 Lo_9 NG_9 B_9
      clear hb_10
      clear hb
      have NM_10 := hid (Lv.ofI oM)
      clear oM
      go_wp2_with fail
      refine (sameInts_any _ NM_10.out.at_ NG_10.out.at_ (by omega) (by omega)).mono ?_
      rw [sameB_selfR]
      rintro e u11 ⟨rfl, hq⟩
      have hb_11 := hid (hq.below u10.heap.size)
      have Ko_11 := hid (Ko_10.out.step hb_11.out)
      have Lo_11 := hid (Lo_10.out.step hb_11.out)
      have NG_11 := hid (NG_10.out.step hb_11.out)
      have NM_11 := hid (NM_10.out.step hb_11.out)
      have B_11 := hid (B_10.out.trans (hb_11.out.mono (by omega)))
      have z_11 : u10.heap.size ≤ u11.heap.size := hb_11.out.size
      clear Ko_10 Lo_10 NG_10 NM_10 B_10
      clear hb_11
      clear hq
      go_wp2
      go_ret
      exact ⟨rfl, B_11.out⟩

theorem lawRoundNew {a : Option Addr} {len cap : Nat} {zs : List Int} (w : World) (h : RowIs .u8 w a len cap zs) :
    Calls Try.prog 3 #[.slice a len cap] w fun e w' => e = .returned (.bool true) ∧ Below w.heap.size w w' :=
  lawRoundNew_at w w h (Below.refl _ _) (Nat.le_refl _)
end Go.Proofs.Ytccggcdjajehnaa
