/-
  The walk of the law FnRoundAddRefused: it returns true, and nothing that was there is written. No condition.
-/
import Derived.Test.YtccggcdjajehnaaRmY
import Derived.Test.YtccggcdjajehnaaRyM
import Derived.Test.YtccggcdjajehnaaRmJ
import Derived.Test.YtccggcdjajehnaaRmG
import Derived.Test.YtccggcdjajehnaaRmK
import Derived.Deep.CutBlock
import Derived.Deep.RegionLaw
import Derived.Deep.RegionHeld3
import Derived.Deep.DeepCutAuto
namespace Go.Proofs.Ytccggcdjajehnaa
open Go.RowKit
set_option linter.unusedVariables false
set_option linter.unusedSimpArgs false


theorem hasInt_asR {B n c : Nat} {A : Option Addr} {zs : List Int} {x : Int} {b : Bool} (h : hasB zs x = b) (w : World) (hr : RdI w B A n zs) (hn : n < 1099511627776) :
    Calls Try.prog 22 #[.slice A n c, .int .i64 x] w fun e w' => e = .returned (.bool b) ∧ w = w' := by
  subst h; exact hasInt_any x w hr hn

theorem StampValid_asR {t g : Int} {r : Bool} (h : stB t g = r) (w : World) : Calls Try.prog 24 #[two t g] w fun e w' => e = .returned (.bool r) ∧ Below w.heap.size w w' := by
  subst h; exact StampValid_spec t g w


set_option maxRecDepth 100000 in
set_option maxHeartbeats 16000000 in
theorem lawRoundAddRefused_at {a : Option Addr} {len cap : Nat} {zs : List Int} (w u0 : World) (h : RowIs .u8 u0 a len cap zs) (hB0 : Below w.heap.size w u0) (z_0 : w.heap.size ≤ u0.heap.size) :
    Calls Try.prog 5 #[.slice a len cap] u0 fun e w' => e = .returned (.bool true) ∧ Below w.heap.size w w' := by
  have hl := h.len_leR
  have B_0 := hid hB0
  have h' := hid h
  clear hB0 h
  by_cases hbig : 1048576 < len
  · go_enter Try.func5, Try.ntmps5
    go_wp2
    go_ret
    exact ⟨rfl, B_0.out⟩
  · go_enter Try.func5, Try.ntmps5
    go_wp2_with fail
    refine (DrawRoundAdd_any _ h'.out).mono ?_
    rintro e u1 ⟨m, A1, c1, A2, c2, gs, xs, st, sg, rfl, o1, ⟨hl1, hl2⟩, hb⟩
    have hb_1 := hid hb
    have B_1 := hid (B_0.out.trans (hb_1.out.mono (by omega)))
    have z_1 : u0.heap.size ≤ u1.heap.size := hb_1.out.size
    clear  B_0
    clear hb_1
    clear hb
    have Lr_1 := hid (Lr.of o1)
    clear o1
    go_upto_region 4 with (fail)
    obtain ⟨u2, hu⟩ : ∃ W, ((u1.alloc (.cells #[.int .i64 m, .slice A1 gs.length c1, .slice A2 xs.length c2] 28)).alloc (.cells #[.int .i64 st, .int .i64 sg] 33)) = W := ⟨_, rfl⟩
    rw [hu]
    have hb : Below u1.heap.size u1 u2 := by rw [← hu]; exact below2 _ _ _
    have hcr : Cs u2 (u1.heap.size) 28 #[.int .i64 m, .slice A1 gs.length c1, .slice A2 xs.length c2] := by rw [← hu]; exact (Cs.new _ _ _).alloc _
    have hcs : Cs u2 (u1.heap.size + 1) 33 #[.int .i64 st, .int .i64 sg] := by rw [← hu]; exact Cs.new' _ _ _ (by simp)
    clear hu
    have hb_2 := hid hb
    have Lr_2 := hid (Lr_1.out.step hb_2.out)
    have B_2 := hid (B_1.out.trans (hb_2.out.mono (by omega)))
    have z_2 : u1.heap.size ≤ u2.heap.size := hb_2.out.size
    clear Lr_1 B_1
    clear hb_2
    clear hb
    have Kr_2 := hid hcr
    have yr_2 : u1.heap.size < u2.heap.size := hcr.lt
    clear hcr
    have Ks_2 := hid hcs
    have ys_2 : u1.heap.size + 1 < u2.heap.size := hcs.lt
    clear hcs
    obtain ⟨om, og, ox, ok, hR⟩ : ∃ om og ox ok, adR m gs xs (st, sg) = ⟨om, og, ox, ok⟩ := ⟨_, _, _, _, rfl⟩
    have hol := (adR_len hR).1
    have hxl := (adR_len hR).2
    have hol9 : og.length ≤ 1048576 := by omega
    have hxl9 : ox.length ≤ 1048576 := by omega
    clear hol hxl
    replace hR := hid hR
    obtain ⟨qr0, qr1, qr2⟩ := Kr_2.out.three
    obtain ⟨qs0, qs1, -, -⟩ := Ks_2.out.two
    go_wp2_with fail
    refine (RoundAdd_implE hR.out _ (Lr_2.out.ow.rd (by omega) (by omega))).mono ?_
    rintro e u3 ⟨Ao, co, Eo, eo, rfl, oo, hb⟩
    clear qr0 qr1 qr2 qs0 qs1
    have hb_3 := hid hb
    have Kr_3 := hid (Kr_2.out.step hb_3.out)
    have Ks_3 := hid (Ks_2.out.step hb_3.out)
    have Lr_3 := hid (Lr_2.out.step hb_3.out)
    have B_3 := hid (B_2.out.trans (hb_3.out.mono (by omega)))
    have z_3 : u2.heap.size ≤ u3.heap.size := hb_3.out.size
    clear Kr_2 Ks_2 Lr_2 B_2
    clear hb_3
    clear hb
    have Lo_3 := hid (Lr.of oo)
    clear oo
    go_upto_region 5 with (fail)
    obtain ⟨u4, hu⟩ : ∃ W, (u3.alloc (.cells #[.int .i64 om, .slice Ao og.length co, .slice Eo ox.length eo] 28)) = W := ⟨_, rfl⟩
    rw [hu]
    have hb : Below u3.heap.size u3 u4 := by rw [← hu]; exact below1 _ _
    have hco : Cs u4 (u3.heap.size) 28 #[.int .i64 om, .slice Ao og.length co, .slice Eo ox.length eo] := by rw [← hu]; exact Cs.new _ _ _
    clear hu
    have hb_4 := hid hb
    have Kr_4 := hid (Kr_3.out.step hb_4.out)
    have Ks_4 := hid (Ks_3.out.step hb_4.out)
    have Lr_4 := hid (Lr_3.out.step hb_4.out)
    have Lo_4 := hid (Lo_3.out.step hb_4.out)
    have B_4 := hid (B_3.out.trans (hb_4.out.mono (by omega)))
    have z_4 : u3.heap.size ≤ u4.heap.size := hb_4.out.size
    clear Kr_3 Ks_3 Lr_3 Lo_3 B_3
    clear hb_4
    clear hb
    have Ko_4 := hid hco
    have yo_4 : u3.heap.size < u4.heap.size := hco.lt
    clear hco
    obtain ⟨qr0, qr1, qr2⟩ := Kr_4.out.three
    obtain ⟨qs0, qs1, -, -⟩ := Ks_4.out.two
    go_wp2_with fail
    refine (RoundAdd_specE hR.out _ (Lr_4.out.ow.rd (by omega) (by omega))).mono ?_
    rintro e u5 ⟨Aw, cw, Ew, ew, rfl, ow, hb⟩
    clear qr0 qr1 qr2 qs0 qs1
    have hb_5 := hid hb
    have Kr_5 := hid (Kr_4.out.step hb_5.out)
    have Ks_5 := hid (Ks_4.out.step hb_5.out)
    have Ko_5 := hid (Ko_4.out.step hb_5.out)
    have Lr_5 := hid (Lr_4.out.step hb_5.out)
    have Lo_5 := hid (Lo_4.out.step hb_5.out)
    have B_5 := hid (B_4.out.trans (hb_5.out.mono (by omega)))
    have z_5 : u4.heap.size ≤ u5.heap.size := hb_5.out.size
    clear Kr_4 Ks_4 Ko_4 Lr_4 Lo_4 B_4
    clear hb_5
    clear hb
    have Lw_5 := hid (Lr.of ow)
    clear ow
    go_upto_region 6 with (fail)
    obtain ⟨u6, hu⟩ : ∃ W, (u5.alloc (.cells #[.int .i64 om, .slice Aw og.length cw, .slice Ew ox.length ew] 28)) = W := ⟨_, rfl⟩
    rw [hu]
    have hb : Below u5.heap.size u5 u6 := by rw [← hu]; exact below1 _ _
    have hcw : Cs u6 (u5.heap.size) 28 #[.int .i64 om, .slice Aw og.length cw, .slice Ew ox.length ew] := by rw [← hu]; exact Cs.new _ _ _
    clear hu
    have hb_6 := hid hb
    have Kr_6 := hid (Kr_5.out.step hb_6.out)
    have Ks_6 := hid (Ks_5.out.step hb_6.out)
    have Ko_6 := hid (Ko_5.out.step hb_6.out)
    have Lr_6 := hid (Lr_5.out.step hb_6.out)
    have Lo_6 := hid (Lo_5.out.step hb_6.out)
    have Lw_6 := hid (Lw_5.out.step hb_6.out)
    have B_6 := hid (B_5.out.trans (hb_6.out.mono (by omega)))
    have z_6 : u5.heap.size ≤ u6.heap.size := hb_6.out.size
    clear Kr_5 Ks_5 Ko_5 Lr_5 Lo_5 Lw_5 B_5
    clear hb_6
    clear hb
    have Kw_6 := hid hcw
    have yw_6 : u5.heap.size < u6.heap.size := hcw.lt
    clear hcw
    cases hv : rvB m gs xs with
    | false =>
      replace hv := hid hv
      cases ok with
      | false =>
        obtain ⟨qo0, qo1, qo2⟩ := Ko_6.out.three
        obtain ⟨qw0, qw1, qw2⟩ := Kw_6.out.three
        go_wp2_with fail
        refine (sameRound_same om _ Lo_6.out.r1 Lo_6.out.r2 Lw_6.out.r1 Lw_6.out.r2 (by omega) (by omega)).mono ?_
        rintro e u7 ⟨rfl, hb⟩
        clear qo0 qo1 qo2 qw0 qw1 qw2
        have hb_7 := hid hb
        have Kr_7 := hid (Kr_6.out.step hb_7.out)
        have Ks_7 := hid (Ks_6.out.step hb_7.out)
        have Ko_7 := hid (Ko_6.out.step hb_7.out)
        have Kw_7 := hid (Kw_6.out.step hb_7.out)
        have Lr_7 := hid (Lr_6.out.step hb_7.out)
        have Lo_7 := hid (Lo_6.out.step hb_7.out)
        have Lw_7 := hid (Lw_6.out.step hb_7.out)
        have B_7 := hid (B_6.out.trans (hb_7.out.mono (by omega)))
        have z_7 : u6.heap.size ≤ u7.heap.size := hb_7.out.size
        clear Kr_6 Ks_6 Ko_6 Kw_6 Lr_6 Lo_6 Lw_6 B_6
        clear hb_7
        clear hb
        obtain ⟨qr0, qr1, qr2⟩ := Kr_7.out.three
        go_wp2_with fail
        refine (RoundValid_spec hv.out _ (Lr_7.out.ow.rd (by omega) (by omega))).mono ?_
        rintro e u8 ⟨rfl, hb⟩
        clear qr0 qr1 qr2
        have hb_8 := hid hb
        have Kr_8 := hid (Kr_7.out.step hb_8.out)
        have Ks_8 := hid (Ks_7.out.step hb_8.out)
        have Ko_8 := hid (Ko_7.out.step hb_8.out)
        have Kw_8 := hid (Kw_7.out.step hb_8.out)
        have Lr_8 := hid (Lr_7.out.step hb_8.out)
        have Lo_8 := hid (Lo_7.out.step hb_8.out)
        have Lw_8 := hid (Lw_7.out.step hb_8.out)
        have B_8 := hid (B_7.out.trans (hb_8.out.mono (by omega)))
        have z_8 : u7.heap.size ≤ u8.heap.size := hb_8.out.size
        clear Kr_7 Ks_7 Ko_7 Kw_7 Lr_7 Lo_7 Lw_7 B_7
        clear hb_8
        clear hb
        obtain ⟨qo0, qo1, qo2⟩ := Ko_8.out.three
        obtain ⟨qw0, qw1, qw2⟩ := Kw_8.out.three
        go_wp2_with fail
        refine (sameRound_same om _ Lo_8.out.r1 Lo_8.out.r2 Lw_8.out.r1 Lw_8.out.r2 (by omega) (by omega)).mono ?_
        rintro e u9 ⟨rfl, hb⟩
        clear qo0 qo1 qo2 qw0 qw1 qw2
        have hb_9 := hid hb
        have Kr_9 := hid (Kr_8.out.step hb_9.out)
        have Ks_9 := hid (Ks_8.out.step hb_9.out)
        have Ko_9 := hid (Ko_8.out.step hb_9.out)
        have Kw_9 := hid (Kw_8.out.step hb_9.out)
        have Lr_9 := hid (Lr_8.out.step hb_9.out)
        have Lo_9 := hid (Lo_8.out.step hb_9.out)
        have Lw_9 := hid (Lw_8.out.step hb_9.out)
        have B_9 := hid (B_8.out.trans (hb_9.out.mono (by omega)))
        have z_9 : u8.heap.size ≤ u9.heap.size := hb_9.out.size
        clear Kr_8 Ks_8 Ko_8 Kw_8 Lr_8 Lo_8 Lw_8 B_8
        clear hb_9
        clear hb
        go_wp2
        go_ret
        exact ⟨rfl, B_9.out⟩
      | true =>
        obtain ⟨qo0, qo1, qo2⟩ := Ko_6.out.three
        obtain ⟨qw0, qw1, qw2⟩ := Kw_6.out.three
        go_wp2_with fail
        refine (sameRound_same om _ Lo_6.out.r1 Lo_6.out.r2 Lw_6.out.r1 Lw_6.out.r2 (by omega) (by omega)).mono ?_
        rintro e u7 ⟨rfl, hb⟩
        clear qo0 qo1 qo2 qw0 qw1 qw2
        have hb_7 := hid hb
        have Kr_7 := hid (Kr_6.out.step hb_7.out)
        have Ks_7 := hid (Ks_6.out.step hb_7.out)
        have Ko_7 := hid (Ko_6.out.step hb_7.out)
        have Kw_7 := hid (Kw_6.out.step hb_7.out)
        have Lr_7 := hid (Lr_6.out.step hb_7.out)
        have Lo_7 := hid (Lo_6.out.step hb_7.out)
        have Lw_7 := hid (Lw_6.out.step hb_7.out)
        have B_7 := hid (B_6.out.trans (hb_7.out.mono (by omega)))
        have z_7 : u6.heap.size ≤ u7.heap.size := hb_7.out.size
        clear Kr_6 Ks_6 Ko_6 Kw_6 Lr_6 Lo_6 Lw_6 B_6
        clear hb_7
        clear hb
        obtain ⟨qr0, qr1, qr2⟩ := Kr_7.out.three
        go_wp2_with fail
        refine (RoundValid_spec hv.out _ (Lr_7.out.ow.rd (by omega) (by omega))).mono ?_
        rintro e u8 ⟨rfl, hb⟩
        clear qr0 qr1 qr2
        have hb_8 := hid hb
        have Kr_8 := hid (Kr_7.out.step hb_8.out)
        have Ks_8 := hid (Ks_7.out.step hb_8.out)
        have Ko_8 := hid (Ko_7.out.step hb_8.out)
        have Kw_8 := hid (Kw_7.out.step hb_8.out)
        have Lr_8 := hid (Lr_7.out.step hb_8.out)
        have Lo_8 := hid (Lo_7.out.step hb_8.out)
        have Lw_8 := hid (Lw_7.out.step hb_8.out)
        have B_8 := hid (B_7.out.trans (hb_8.out.mono (by omega)))
        have z_8 : u7.heap.size ≤ u8.heap.size := hb_8.out.size
        clear Kr_7 Ks_7 Ko_7 Kw_7 Lr_7 Lo_7 Lw_7 B_7
        clear hb_8
        clear hb
        obtain ⟨qo0, qo1, qo2⟩ := Ko_8.out.three
        obtain ⟨qw0, qw1, qw2⟩ := Kw_8.out.three
        go_wp2_with fail
        refine (sameRound_same om _ Lo_8.out.r1 Lo_8.out.r2 Lw_8.out.r1 Lw_8.out.r2 (by omega) (by omega)).mono ?_
        rintro e u9 ⟨rfl, hb⟩
        clear qo0 qo1 qo2 qw0 qw1 qw2
        have hb_9 := hid hb
        have Kr_9 := hid (Kr_8.out.step hb_9.out)
        have Ks_9 := hid (Ks_8.out.step hb_9.out)
        have Ko_9 := hid (Ko_8.out.step hb_9.out)
        have Kw_9 := hid (Kw_8.out.step hb_9.out)
        have Lr_9 := hid (Lr_8.out.step hb_9.out)
        have Lo_9 := hid (Lo_8.out.step hb_9.out)
        have Lw_9 := hid (Lw_8.out.step hb_9.out)
        have B_9 := hid (B_8.out.trans (hb_9.out.mono (by omega)))
        have z_9 : u8.heap.size ≤ u9.heap.size := hb_9.out.size
        clear Kr_8 Ks_8 Ko_8 Kw_8 Lr_8 Lo_8 Lw_8 B_8
        clear hb_9
        clear hb
        go_wp2
        go_ret
        exact ⟨rfl, B_9.out⟩
    | true =>
      cases hs : stB st sg with
      | false =>
        replace hv := hid hv
        replace hs := hid hs
        cases ok with
        | false =>
          obtain ⟨qo0, qo1, qo2⟩ := Ko_6.out.three
          obtain ⟨qw0, qw1, qw2⟩ := Kw_6.out.three
          go_wp2_with fail
          refine (sameRound_same om _ Lo_6.out.r1 Lo_6.out.r2 Lw_6.out.r1 Lw_6.out.r2 (by omega) (by omega)).mono ?_
          rintro e u7 ⟨rfl, hb⟩
          clear qo0 qo1 qo2 qw0 qw1 qw2
          have hb_7 := hid hb
          have Kr_7 := hid (Kr_6.out.step hb_7.out)
          have Ks_7 := hid (Ks_6.out.step hb_7.out)
          have Ko_7 := hid (Ko_6.out.step hb_7.out)
          have Kw_7 := hid (Kw_6.out.step hb_7.out)
          have Lr_7 := hid (Lr_6.out.step hb_7.out)
          have Lo_7 := hid (Lo_6.out.step hb_7.out)
          have Lw_7 := hid (Lw_6.out.step hb_7.out)
          have B_7 := hid (B_6.out.trans (hb_7.out.mono (by omega)))
          have z_7 : u6.heap.size ≤ u7.heap.size := hb_7.out.size
          clear Kr_6 Ks_6 Ko_6 Kw_6 Lr_6 Lo_6 Lw_6 B_6
          clear hb_7
          clear hb
          obtain ⟨qr0, qr1, qr2⟩ := Kr_7.out.three
          go_wp2_with fail
          refine (RoundValid_spec hv.out _ (Lr_7.out.ow.rd (by omega) (by omega))).mono ?_
          rintro e u8 ⟨rfl, hb⟩
          clear qr0 qr1 qr2
          have hb_8 := hid hb
          have Kr_8 := hid (Kr_7.out.step hb_8.out)
          have Ks_8 := hid (Ks_7.out.step hb_8.out)
          have Ko_8 := hid (Ko_7.out.step hb_8.out)
          have Kw_8 := hid (Kw_7.out.step hb_8.out)
          have Lr_8 := hid (Lr_7.out.step hb_8.out)
          have Lo_8 := hid (Lo_7.out.step hb_8.out)
          have Lw_8 := hid (Lw_7.out.step hb_8.out)
          have B_8 := hid (B_7.out.trans (hb_8.out.mono (by omega)))
          have z_8 : u7.heap.size ≤ u8.heap.size := hb_8.out.size
          clear Kr_7 Ks_7 Ko_7 Kw_7 Lr_7 Lo_7 Lw_7 B_7
          clear hb_8
          clear hb
          obtain ⟨qs0, qs1, -, -⟩ := Ks_8.out.two
          go_wp2_with fail
          refine (StampValid_asR hs.out _).mono ?_
          rintro e u9 ⟨rfl, hb⟩
          clear qs0 qs1
          have hb_9 := hid hb
          have Kr_9 := hid (Kr_8.out.step hb_9.out)
          have Ks_9 := hid (Ks_8.out.step hb_9.out)
          have Ko_9 := hid (Ko_8.out.step hb_9.out)
          have Kw_9 := hid (Kw_8.out.step hb_9.out)
          have Lr_9 := hid (Lr_8.out.step hb_9.out)
          have Lo_9 := hid (Lo_8.out.step hb_9.out)
          have Lw_9 := hid (Lw_8.out.step hb_9.out)
          have B_9 := hid (B_8.out.trans (hb_9.out.mono (by omega)))
          have z_9 : u8.heap.size ≤ u9.heap.size := hb_9.out.size
          clear Kr_8 Ks_8 Ko_8 Kw_8 Lr_8 Lo_8 Lw_8 B_8
          clear hb_9
          clear hb
          obtain ⟨qo0, qo1, qo2⟩ := Ko_9.out.three
          obtain ⟨qw0, qw1, qw2⟩ := Kw_9.out.three
          go_wp2_with fail
          refine (sameRound_same om _ Lo_9.out.r1 Lo_9.out.r2 Lw_9.out.r1 Lw_9.out.r2 (by omega) (by omega)).mono ?_
          rintro e u10 ⟨rfl, hb⟩
          clear qo0 qo1 qo2 qw0 qw1 qw2
          have hb_10 := hid hb
          have Kr_10 := hid (Kr_9.out.step hb_10.out)
          have Ks_10 := hid (Ks_9.out.step hb_10.out)
          have Ko_10 := hid (Ko_9.out.step hb_10.out)
          have Kw_10 := hid (Kw_9.out.step hb_10.out)
          have Lr_10 := hid (Lr_9.out.step hb_10.out)
          have Lo_10 := hid (Lo_9.out.step hb_10.out)
          have Lw_10 := hid (Lw_9.out.step hb_10.out)
          have B_10 := hid (B_9.out.trans (hb_10.out.mono (by omega)))
          have z_10 : u9.heap.size ≤ u10.heap.size := hb_10.out.size
          clear Kr_9 Ks_9 Ko_9 Kw_9 Lr_9 Lo_9 Lw_9 B_9
          clear hb_10
          clear hb
          go_wp2
          go_ret
          exact ⟨rfl, B_10.out⟩
        | true =>
          obtain ⟨qo0, qo1, qo2⟩ := Ko_6.out.three
          obtain ⟨qw0, qw1, qw2⟩ := Kw_6.out.three
          go_wp2_with fail
          refine (sameRound_same om _ Lo_6.out.r1 Lo_6.out.r2 Lw_6.out.r1 Lw_6.out.r2 (by omega) (by omega)).mono ?_
          rintro e u7 ⟨rfl, hb⟩
          clear qo0 qo1 qo2 qw0 qw1 qw2
          have hb_7 := hid hb
          have Kr_7 := hid (Kr_6.out.step hb_7.out)
          have Ks_7 := hid (Ks_6.out.step hb_7.out)
          have Ko_7 := hid (Ko_6.out.step hb_7.out)
          have Kw_7 := hid (Kw_6.out.step hb_7.out)
          have Lr_7 := hid (Lr_6.out.step hb_7.out)
          have Lo_7 := hid (Lo_6.out.step hb_7.out)
          have Lw_7 := hid (Lw_6.out.step hb_7.out)
          have B_7 := hid (B_6.out.trans (hb_7.out.mono (by omega)))
          have z_7 : u6.heap.size ≤ u7.heap.size := hb_7.out.size
          clear Kr_6 Ks_6 Ko_6 Kw_6 Lr_6 Lo_6 Lw_6 B_6
          clear hb_7
          clear hb
          obtain ⟨qr0, qr1, qr2⟩ := Kr_7.out.three
          go_wp2_with fail
          refine (RoundValid_spec hv.out _ (Lr_7.out.ow.rd (by omega) (by omega))).mono ?_
          rintro e u8 ⟨rfl, hb⟩
          clear qr0 qr1 qr2
          have hb_8 := hid hb
          have Kr_8 := hid (Kr_7.out.step hb_8.out)
          have Ks_8 := hid (Ks_7.out.step hb_8.out)
          have Ko_8 := hid (Ko_7.out.step hb_8.out)
          have Kw_8 := hid (Kw_7.out.step hb_8.out)
          have Lr_8 := hid (Lr_7.out.step hb_8.out)
          have Lo_8 := hid (Lo_7.out.step hb_8.out)
          have Lw_8 := hid (Lw_7.out.step hb_8.out)
          have B_8 := hid (B_7.out.trans (hb_8.out.mono (by omega)))
          have z_8 : u7.heap.size ≤ u8.heap.size := hb_8.out.size
          clear Kr_7 Ks_7 Ko_7 Kw_7 Lr_7 Lo_7 Lw_7 B_7
          clear hb_8
          clear hb
          obtain ⟨qs0, qs1, -, -⟩ := Ks_8.out.two
          go_wp2_with fail
          refine (StampValid_asR hs.out _).mono ?_
          rintro e u9 ⟨rfl, hb⟩
          clear qs0 qs1
          have hb_9 := hid hb
          have Kr_9 := hid (Kr_8.out.step hb_9.out)
          have Ks_9 := hid (Ks_8.out.step hb_9.out)
          have Ko_9 := hid (Ko_8.out.step hb_9.out)
          have Kw_9 := hid (Kw_8.out.step hb_9.out)
          have Lr_9 := hid (Lr_8.out.step hb_9.out)
          have Lo_9 := hid (Lo_8.out.step hb_9.out)
          have Lw_9 := hid (Lw_8.out.step hb_9.out)
          have B_9 := hid (B_8.out.trans (hb_9.out.mono (by omega)))
          have z_9 : u8.heap.size ≤ u9.heap.size := hb_9.out.size
          clear Kr_8 Ks_8 Ko_8 Kw_8 Lr_8 Lo_8 Lw_8 B_8
          clear hb_9
          clear hb
          obtain ⟨qo0, qo1, qo2⟩ := Ko_9.out.three
          obtain ⟨qw0, qw1, qw2⟩ := Kw_9.out.three
          go_wp2_with fail
          refine (sameRound_same om _ Lo_9.out.r1 Lo_9.out.r2 Lw_9.out.r1 Lw_9.out.r2 (by omega) (by omega)).mono ?_
          rintro e u10 ⟨rfl, hb⟩
          clear qo0 qo1 qo2 qw0 qw1 qw2
          have hb_10 := hid hb
          have Kr_10 := hid (Kr_9.out.step hb_10.out)
          have Ks_10 := hid (Ks_9.out.step hb_10.out)
          have Ko_10 := hid (Ko_9.out.step hb_10.out)
          have Kw_10 := hid (Kw_9.out.step hb_10.out)
          have Lr_10 := hid (Lr_9.out.step hb_10.out)
          have Lo_10 := hid (Lo_9.out.step hb_10.out)
          have Lw_10 := hid (Lw_9.out.step hb_10.out)
          have B_10 := hid (B_9.out.trans (hb_10.out.mono (by omega)))
          have z_10 : u9.heap.size ≤ u10.heap.size := hb_10.out.size
          clear Kr_9 Ks_9 Ko_9 Kw_9 Lr_9 Lo_9 Lw_9 B_9
          clear hb_10
          clear hb
          go_wp2
          go_ret
          exact ⟨rfl, B_10.out⟩
      | true =>
        obtain ⟨hh, hu⟩ := ad_refused hR.out hv hs
        obtain ⟨M, hM⟩ : ∃ M, misR m gs xs = M := ⟨_, rfl⟩
        have hml := misR_len hM
        rw [hM] at hh
        simp only at hh
        replace hh := hid hh
        replace hM := hid hM
        replace hv := hid hv
        replace hs := hid hs
        cases ok with
        | true =>
          clear hu
          obtain ⟨qo0, qo1, qo2⟩ := Ko_6.out.three
          obtain ⟨qw0, qw1, qw2⟩ := Kw_6.out.three
          go_wp2_with fail
          refine (sameRound_same om _ Lo_6.out.r1 Lo_6.out.r2 Lw_6.out.r1 Lw_6.out.r2 (by omega) (by omega)).mono ?_
          rintro e u7 ⟨rfl, hb⟩
          clear qo0 qo1 qo2 qw0 qw1 qw2
          have hb_7 := hid hb
          have Kr_7 := hid (Kr_6.out.step hb_7.out)
          have Ks_7 := hid (Ks_6.out.step hb_7.out)
          have Ko_7 := hid (Ko_6.out.step hb_7.out)
          have Kw_7 := hid (Kw_6.out.step hb_7.out)
          have Lr_7 := hid (Lr_6.out.step hb_7.out)
          have Lo_7 := hid (Lo_6.out.step hb_7.out)
          have Lw_7 := hid (Lw_6.out.step hb_7.out)
          have B_7 := hid (B_6.out.trans (hb_7.out.mono (by omega)))
          have z_7 : u6.heap.size ≤ u7.heap.size := hb_7.out.size
          clear Kr_6 Ks_6 Ko_6 Kw_6 Lr_6 Lo_6 Lw_6 B_6
          clear hb_7
          clear hb
          obtain ⟨qr0, qr1, qr2⟩ := Kr_7.out.three
          go_wp2_with fail
          refine (RoundValid_spec hv.out _ (Lr_7.out.ow.rd (by omega) (by omega))).mono ?_
          rintro e u8 ⟨rfl, hb⟩
          clear qr0 qr1 qr2
          have hb_8 := hid hb
          have Kr_8 := hid (Kr_7.out.step hb_8.out)
          have Ks_8 := hid (Ks_7.out.step hb_8.out)
          have Ko_8 := hid (Ko_7.out.step hb_8.out)
          have Kw_8 := hid (Kw_7.out.step hb_8.out)
          have Lr_8 := hid (Lr_7.out.step hb_8.out)
          have Lo_8 := hid (Lo_7.out.step hb_8.out)
          have Lw_8 := hid (Lw_7.out.step hb_8.out)
          have B_8 := hid (B_7.out.trans (hb_8.out.mono (by omega)))
          have z_8 : u7.heap.size ≤ u8.heap.size := hb_8.out.size
          clear Kr_7 Ks_7 Ko_7 Kw_7 Lr_7 Lo_7 Lw_7 B_7
          clear hb_8
          clear hb
          obtain ⟨qs0, qs1, -, -⟩ := Ks_8.out.two
          go_wp2_with fail
          refine (StampValid_asR hs.out _).mono ?_
          rintro e u9 ⟨rfl, hb⟩
          clear qs0 qs1
          have hb_9 := hid hb
          have Kr_9 := hid (Kr_8.out.step hb_9.out)
          have Ks_9 := hid (Ks_8.out.step hb_9.out)
          have Ko_9 := hid (Ko_8.out.step hb_9.out)
          have Kw_9 := hid (Kw_8.out.step hb_9.out)
          have Lr_9 := hid (Lr_8.out.step hb_9.out)
          have Lo_9 := hid (Lo_8.out.step hb_9.out)
          have Lw_9 := hid (Lw_8.out.step hb_9.out)
          have B_9 := hid (B_8.out.trans (hb_9.out.mono (by omega)))
          have z_9 : u8.heap.size ≤ u9.heap.size := hb_9.out.size
          clear Kr_8 Ks_8 Ko_8 Kw_8 Lr_8 Lo_8 Lw_8 B_8
          clear hb_9
          clear hb
          clear Kw_9
          clear Lw_9
          have hd := hid (Below.refl u9.heap.size u9).drew
          have Kr_d := hid (Kr_9.out.step hd.out)
          have Ks_d := hid (Ks_9.out.step hd.out)
          have Ko_d := hid (Ko_9.out.step hd.out)
          have Lr_d := hid (Lr_9.out.step hd.out)
          have Lo_d := hid (Lo_9.out.step hd.out)
          have B_d := hid (B_9.out.trans (hd.out.mono (by omega)))
          have z_d : u9.heap.size ≤ u9.drew.heap.size := hd.out.size
          clear hd
          obtain ⟨qr0, qr1, qr2⟩ := Kr_9.out.three
          obtain ⟨qs0, qs1, -, -⟩ := Ks_9.out.two
          go_wp2_with fail
          go_region_law (go_simp; (first | (go_at_call 18; (with_reducible refine (RoundMissing_impl hM.out _ (Lr_d.out.ow.rd (by omega) (by omega))).mono ?_); rintro e xe ⟨AM, cM, rfl, oM, hb⟩; have Kr_e := hid (Kr_d.out.step hb); have Ks_e := hid (Ks_d.out.step hb); have Ko_e := hid (Ko_d.out.step hb); have Lr_e := hid (Lr_d.out.step hb); have Lo_e := hid (Lo_d.out.step hb); have B_e := hid (B_d.out.trans (hb.mono (by omega))); have z_e := hb.size; have NM_e := hid (Lv.ofI oM); clear oM; obtain ⟨re0, re1, re2⟩ := Kr_e.out.three; obtain ⟨se0, se1, -, -⟩ := Ks_e.out.two; clear hb) | (go_at_call 22; (with_reducible refine (hasInt_asR hh.out _ NM_e.out.at_ (by omega)).mono ?_); rintro e x9 ⟨rfl, rfl⟩)))
          all_goals
            go_wp2
            go_ret
            exact ⟨rfl, B_e.out⟩
        | false =>
          obtain ⟨h1, h2, h3⟩ := hu rfl
          clear hu
          have h1 := h1.symm
          have h2 := h2.symm
          have h3 := h3.symm
          subst h1 h2 h3
          obtain ⟨qo0, qo1, qo2⟩ := Ko_6.out.three
          obtain ⟨qw0, qw1, qw2⟩ := Kw_6.out.three
          go_wp2_with fail
          refine (sameRound_same m _ Lo_6.out.r1 Lo_6.out.r2 Lw_6.out.r1 Lw_6.out.r2 (by omega) (by omega)).mono ?_
          rintro e u7 ⟨rfl, hb⟩
          clear qo0 qo1 qo2 qw0 qw1 qw2
          have hb_7 := hid hb
          have Kr_7 := hid (Kr_6.out.step hb_7.out)
          have Ks_7 := hid (Ks_6.out.step hb_7.out)
          have Ko_7 := hid (Ko_6.out.step hb_7.out)
          have Kw_7 := hid (Kw_6.out.step hb_7.out)
          have Lr_7 := hid (Lr_6.out.step hb_7.out)
          have Lo_7 := hid (Lo_6.out.step hb_7.out)
          have Lw_7 := hid (Lw_6.out.step hb_7.out)
          have B_7 := hid (B_6.out.trans (hb_7.out.mono (by omega)))
          have z_7 : u6.heap.size ≤ u7.heap.size := hb_7.out.size
          clear Kr_6 Ks_6 Ko_6 Kw_6 Lr_6 Lo_6 Lw_6 B_6
          clear hb_7
          clear hb
          obtain ⟨qr0, qr1, qr2⟩ := Kr_7.out.three
          go_wp2_with fail
          refine (RoundValid_spec hv.out _ (Lr_7.out.ow.rd (by omega) (by omega))).mono ?_
          rintro e u8 ⟨rfl, hb⟩
          clear qr0 qr1 qr2
          have hb_8 := hid hb
          have Kr_8 := hid (Kr_7.out.step hb_8.out)
          have Ks_8 := hid (Ks_7.out.step hb_8.out)
          have Ko_8 := hid (Ko_7.out.step hb_8.out)
          have Kw_8 := hid (Kw_7.out.step hb_8.out)
          have Lr_8 := hid (Lr_7.out.step hb_8.out)
          have Lo_8 := hid (Lo_7.out.step hb_8.out)
          have Lw_8 := hid (Lw_7.out.step hb_8.out)
          have B_8 := hid (B_7.out.trans (hb_8.out.mono (by omega)))
          have z_8 : u7.heap.size ≤ u8.heap.size := hb_8.out.size
          clear Kr_7 Ks_7 Ko_7 Kw_7 Lr_7 Lo_7 Lw_7 B_7
          clear hb_8
          clear hb
          obtain ⟨qs0, qs1, -, -⟩ := Ks_8.out.two
          go_wp2_with fail
          refine (StampValid_asR hs.out _).mono ?_
          rintro e u9 ⟨rfl, hb⟩
          clear qs0 qs1
          have hb_9 := hid hb
          have Kr_9 := hid (Kr_8.out.step hb_9.out)
          have Ks_9 := hid (Ks_8.out.step hb_9.out)
          have Ko_9 := hid (Ko_8.out.step hb_9.out)
          have Kw_9 := hid (Kw_8.out.step hb_9.out)
          have Lr_9 := hid (Lr_8.out.step hb_9.out)
          have Lo_9 := hid (Lo_8.out.step hb_9.out)
          have Lw_9 := hid (Lw_8.out.step hb_9.out)
          have B_9 := hid (B_8.out.trans (hb_9.out.mono (by omega)))
          have z_9 : u8.heap.size ≤ u9.heap.size := hb_9.out.size
          clear Kr_8 Ks_8 Ko_8 Kw_8 Lr_8 Lo_8 Lw_8 B_8
          clear hb_9
          clear hb
          clear Kw_9
          clear Lw_9
          have hd := hid (Below.refl u9.heap.size u9).drew
          have Kr_d := hid (Kr_9.out.step hd.out)
          have Ks_d := hid (Ks_9.out.step hd.out)
          have Ko_d := hid (Ko_9.out.step hd.out)
          have Lr_d := hid (Lr_9.out.step hd.out)
          have Lo_d := hid (Lo_9.out.step hd.out)
          have B_d := hid (B_9.out.trans (hd.out.mono (by omega)))
          have z_d : u9.heap.size ≤ u9.drew.heap.size := hd.out.size
          clear hd
          obtain ⟨qr0, qr1, qr2⟩ := Kr_9.out.three
          obtain ⟨qs0, qs1, -, -⟩ := Ks_9.out.two
          obtain ⟨qo0, qo1, qo2⟩ := Ko_9.out.three
          go_wp2_with fail
          go_region_law (go_simp; (first | (go_at_call 18; (with_reducible refine (RoundMissing_impl hM.out _ (Lr_d.out.ow.rd (by omega) (by omega))).mono ?_); rintro e xe ⟨AM, cM, rfl, oM, hb⟩; have Kr_e := hid (Kr_d.out.step hb); have Ks_e := hid (Ks_d.out.step hb); have Ko_e := hid (Ko_d.out.step hb); have Lr_e := hid (Lr_d.out.step hb); have Lo_e := hid (Lo_d.out.step hb); have B_e := hid (B_d.out.trans (hb.mono (by omega))); have z_e := hb.size; have NM_e := hid (Lv.ofI oM); clear oM; obtain ⟨re0, re1, re2⟩ := Kr_e.out.three; obtain ⟨se0, se1, -, -⟩ := Ks_e.out.two; obtain ⟨oe0, oe1, oe2⟩ := Ko_e.out.three; clear hb) | (go_at_call 22; (with_reducible refine (hasInt_asR hh.out _ NM_e.out.at_ (by omega)).mono ?_); rintro e x9 ⟨rfl, rfl⟩) | (go_at_call 14; (with_reducible refine (sameRound_same _ _ Lo_e.out.r1 Lo_e.out.r2 Lr_e.out.r1 Lr_e.out.r2 (by omega) (by omega)).mono ?_); rintro e xf ⟨rfl, hb⟩; have Kr_f := hid (Kr_e.out.step hb); have Ks_f := hid (Ks_e.out.step hb); have Ko_f := hid (Ko_e.out.step hb); have Lr_f := hid (Lr_e.out.step hb); have Lo_f := hid (Lo_e.out.step hb); have NM_f := hid (NM_e.out.step hb); have B_f := hid (B_e.out.trans (hb.mono (by omega))); have z_f := hb.size; obtain ⟨rf0, rf1, rf2⟩ := Kr_f.out.three; obtain ⟨sf0, sf1, -, -⟩ := Ks_f.out.two; obtain ⟨of0, of1, of2⟩ := Ko_f.out.three; clear hb)))
          all_goals
            go_wp2
            go_ret
            exact ⟨rfl, B_f.out⟩

theorem lawRoundAddRefused {a : Option Addr} {len cap : Nat} {zs : List Int} (w : World) (h : RowIs .u8 w a len cap zs) :
    Calls Try.prog 5 #[.slice a len cap] w fun e w' => e = .returned (.bool true) ∧ Below w.heap.size w w' :=
  lawRoundAddRefused_at w w h (Below.refl _ _) (Nat.le_refl _)
end Go.Proofs.Ytccggcdjajehnaa
