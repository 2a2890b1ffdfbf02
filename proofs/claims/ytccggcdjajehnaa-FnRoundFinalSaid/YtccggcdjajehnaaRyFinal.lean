/-
  The walk of the law FnRoundFinal: it returns true, and nothing that was there is written. No condition.
-/
import Derived.Test.YtccggcdjajehnaaRmY
import Derived.Test.YtccggcdjajehnaaRyM
import Derived.Test.YtccggcdjajehnaaRmI
import Derived.Test.YtccggcdjajehnaaRmJ
import Derived.Test.YtccggcdjajehnaaRmG
import Derived.Test.YtccggcdjajehnaaSmD
import Derived.Deep.CutBlock
import Derived.Deep.RegionLaw
import Derived.Deep.RegionHeld3
import Derived.Deep.DeepCutAuto
namespace Go.Proofs.Ytccggcdjajehnaa
open Go.RowKit
set_option linter.unusedVariables false
set_option linter.unusedSimpArgs false


theorem StampMax_asR {n c : Nat} {A : Option Addr} {zs : List St} {t g : Int} {b : Bool} (h1 : maxR zs = (t, g)) (h2 : maxOk zs = b) (w : World) (h : RdS w A n zs) (hn : n < 1099511627776) (hc : n ≤ c) (hc2 : c ≤ 9223372036854775807) :
    Calls Try.prog 29 #[.slice A n c] w fun e w' => e = .returned (.tuple #[two t g, .bool b]) ∧ Below w.heap.size w w' := by
  have := StampMax_impl (c := c) w h hn hc hc2
  unfold MaxPost at this
  rw [h1, h2] at this
  exact this

theorem RoundMissing_lenR {n1 c1 n2 c2 k : Nat} {A1 A2 : Option Addr} {gs M : List Int} {xs : List St} {m : Int} (hM : misR m gs xs = M) (hk : M.length = k) (w : World) (hr : RdR w A1 n1 A2 n2 c2 gs xs) :
    Calls Try.prog 18 #[rnV m (.slice A1 n1 c1) (.slice A2 n2 c2)] w fun e w' => ∃ (A : Option Addr) (c : Nat), e = .returned (.slice A k c) ∧ Below w.heap.size w w' := by
  subst hk
  exact (RoundMissing_impl hM w hr).mono fun e w' ⟨A, c, e1, _, b⟩ => ⟨A, c, e1, b⟩


set_option maxRecDepth 100000 in
set_option maxHeartbeats 16000000 in
theorem lawRoundFinal_at {a : Option Addr} {len cap : Nat} {zs : List Int} (w u0 : World) (h : RowIs .u8 u0 a len cap zs) (hB0 : Below w.heap.size w u0) (z_0 : w.heap.size ≤ u0.heap.size) :
    Calls Try.prog 8 #[.slice a len cap] u0 fun e w' => e = .returned (.bool true) ∧ Below w.heap.size w w' := by
  have hl := h.len_leR
  have B_0 := hid hB0
  have h' := hid h
  clear hB0 h
  by_cases hbig : 1048576 < len
  · go_enter Try.func8, Try.ntmps8
    go_wp2
    go_ret
    exact ⟨rfl, B_0.out⟩
  · go_enter Try.func8, Try.ntmps8
    go_wp2_with fail
    refine (DrawRoundFinal_any _ h'.out).mono ?_
    rintro e u1 ⟨m, A1, c1, A2, c2, gs, xs, rfl, o1, ⟨hl1, hl2⟩, hb⟩
    have hb_1 := hid hb
    have B_1 := hid (B_0.out.trans (hb_1.out.mono (by omega)))
    have z_1 : u0.heap.size ≤ u1.heap.size := hb_1.out.size
    clear  B_0
    clear hb_1
    clear hb
    have Lr_1 := hid (Lr.of o1)
    clear o1
    go_upto_region 4 with (fail)
    obtain ⟨u2, hu⟩ : ∃ W, (u1.alloc (.cells #[.int .i64 m, .slice A1 gs.length c1, .slice A2 xs.length c2] 28)) = W := ⟨_, rfl⟩
    rw [hu]
    have hb : Below u1.heap.size u1 u2 := by rw [← hu]; exact below1 _ _
    have hcr : Cs u2 (u1.heap.size) 28 #[.int .i64 m, .slice A1 gs.length c1, .slice A2 xs.length c2] := by rw [← hu]; exact Cs.new _ _ _
    clear hu
    have hb_2 := hid hb
    have Lr_2 := hid (Lr_1.out.step hb_2.out)
    have B_2 := hid (B_1.out.trans (hb_2.out.mono (by omega)))
    have z_2 : u1.heap.size ≤ u2.heap.size := hb_2.out.size
    clear Lr_1 B_1
    clear hb_2
    clear hb
    have Kr_2 := hid hcr
    have yr_2 : u1.heap.size < u2.heap.size := hcr.lt
    clear hcr
    obtain ⟨ft, fg, hF⟩ : ∃ ft fg, fnR m gs xs = (ft, fg) := ⟨_, _, rfl⟩
    obtain ⟨ok, hO⟩ : ∃ ok, fnB m gs xs = ok := ⟨_, rfl⟩
    replace hF := hid hF
    replace hO := hid hO
    have e0 : (ft == ft) = true := by simp
    have e1 : (fg == fg) = true := by simp
    obtain ⟨qr0, qr1, qr2⟩ := Kr_2.out.three
    go_wp2_with fail
    refine (RoundFinal_impl hF.out hO.out _ (Lr_2.out.ow.rd (by omega) (by omega))).mono ?_
    rintro e u3 ⟨rfl, hb⟩
    clear qr0 qr1 qr2
    have hb_3 := hid hb
    have Kr_3 := hid (Kr_2.out.step hb_3.out)
    have Lr_3 := hid (Lr_2.out.step hb_3.out)
    have B_3 := hid (B_2.out.trans (hb_3.out.mono (by omega)))
    have z_3 : u2.heap.size ≤ u3.heap.size := hb_3.out.size
    clear Kr_2 Lr_2 B_2
    clear hb_3
    clear hb
    go_upto_region 5 with (fail)
    obtain ⟨u4, hu⟩ : ∃ W, (u3.alloc (.cells #[.int .i64 ft, .int .i64 fg] 33)) = W := ⟨_, rfl⟩
    rw [hu]
    have hb : Below u3.heap.size u3 u4 := by rw [← hu]; exact below1 _ _
    have hct : Cs u4 (u3.heap.size) 33 #[.int .i64 ft, .int .i64 fg] := by rw [← hu]; exact Cs.new _ _ _
    clear hu
    have hb_4 := hid hb
    have Kr_4 := hid (Kr_3.out.step hb_4.out)
    have Lr_4 := hid (Lr_3.out.step hb_4.out)
    have B_4 := hid (B_3.out.trans (hb_4.out.mono (by omega)))
    have z_4 : u3.heap.size ≤ u4.heap.size := hb_4.out.size
    clear Kr_3 Lr_3 B_3
    clear hb_4
    clear hb
    have Kt_4 := hid hct
    have yt_4 : u3.heap.size < u4.heap.size := hct.lt
    clear hct
    obtain ⟨qr0, qr1, qr2⟩ := Kr_4.out.three
    go_wp2_with fail
    refine (RoundFinal_spec hF.out hO.out _ (Lr_4.out.ow.rd (by omega) (by omega))).mono ?_
    rintro e u5 ⟨rfl, hb⟩
    clear qr0 qr1 qr2
    have hb_5 := hid hb
    have Kr_5 := hid (Kr_4.out.step hb_5.out)
    have Kt_5 := hid (Kt_4.out.step hb_5.out)
    have Lr_5 := hid (Lr_4.out.step hb_5.out)
    have B_5 := hid (B_4.out.trans (hb_5.out.mono (by omega)))
    have z_5 : u4.heap.size ≤ u5.heap.size := hb_5.out.size
    clear Kr_4 Kt_4 Lr_4 B_4
    clear hb_5
    clear hb
    go_upto_region 6 with (fail)
    obtain ⟨u6, hu⟩ : ∃ W, (u5.alloc (.cells #[.int .i64 ft, .int .i64 fg] 33)) = W := ⟨_, rfl⟩
    rw [hu]
    have hb : Below u5.heap.size u5 u6 := by rw [← hu]; exact below1 _ _
    have hcu : Cs u6 (u5.heap.size) 33 #[.int .i64 ft, .int .i64 fg] := by rw [← hu]; exact Cs.new _ _ _
    clear hu
    have hb_6 := hid hb
    have Kr_6 := hid (Kr_5.out.step hb_6.out)
    have Kt_6 := hid (Kt_5.out.step hb_6.out)
    have Lr_6 := hid (Lr_5.out.step hb_6.out)
    have B_6 := hid (B_5.out.trans (hb_6.out.mono (by omega)))
    have z_6 : u5.heap.size ≤ u6.heap.size := hb_6.out.size
    clear Kr_5 Kt_5 Lr_5 B_5
    clear hb_6
    clear hb
    have Ku_6 := hid hcu
    have yu_6 : u5.heap.size < u6.heap.size := hcu.lt
    clear hcu
    cases hv : rvB m gs xs with
    | false =>
      obtain rfl : ok = false := hO.out.symm.trans (fnB_no hv)
      replace hv := hid hv
      obtain ⟨qt0, qt1, -, -⟩ := Kt_6.out.two
      obtain ⟨qu0, qu1, -, -⟩ := Ku_6.out.two
      obtain ⟨qr0, qr1, qr2⟩ := Kr_6.out.three
      go_wp2_with fail
      refine (RoundValid_spec hv.out _ (Lr_6.out.ow.rd (by omega) (by omega))).mono ?_
      rintro e u7 ⟨rfl, hb⟩
      clear qr0 qr1 qr2
      have hb_7 := hid hb
      have Kr_7 := hid (Kr_6.out.step hb_7.out)
      have Kt_7 := hid (Kt_6.out.step hb_7.out)
      have Ku_7 := hid (Ku_6.out.step hb_7.out)
      have Lr_7 := hid (Lr_6.out.step hb_7.out)
      have B_7 := hid (B_6.out.trans (hb_7.out.mono (by omega)))
      have z_7 : u6.heap.size ≤ u7.heap.size := hb_7.out.size
      clear Kr_6 Kt_6 Ku_6 Lr_6 B_6
      clear hb_7
      clear hb
      obtain ⟨qq0, qq1, -, -⟩ := Kt_7.out.two
      obtain ⟨qq2, qq3, -, -⟩ := Ku_7.out.two
      go_wp2
      go_ret
      exact ⟨rfl, B_7.out⟩
    | true =>
      have hf := fn_len hv
      rw [hO.out] at hf
      obtain ⟨M, hM⟩ : ∃ M, misR m gs xs = M := ⟨_, rfl⟩
      rw [hM] at hf
      replace hM := hid hM
      replace hv := hid hv
      cases ok with
      | false =>
        have hk : M.length ≠ 0 := by intro h; simp [h] at hf
        obtain ⟨k, hkk⟩ : ∃ k, M.length = k := ⟨_, rfl⟩
        rw [hkk] at hk
        replace hkk := hid hkk
        have e8 : ((k : Int) == 0) = false := by simpa using hk
        obtain ⟨mt, mg, h1⟩ : ∃ mt mg, maxR xs = (mt, mg) := ⟨_, _, rfl⟩
        obtain ⟨mb, h2⟩ : ∃ mb, maxOk xs = mb := ⟨_, rfl⟩
        replace h1 := hid h1
        replace h2 := hid h2
        clear hf
        obtain ⟨qt0, qt1, -, -⟩ := Kt_6.out.two
        obtain ⟨qu0, qu1, -, -⟩ := Ku_6.out.two
        obtain ⟨qr0, qr1, qr2⟩ := Kr_6.out.three
        go_wp2_with fail
        refine (RoundValid_spec hv.out _ (Lr_6.out.ow.rd (by omega) (by omega))).mono ?_
        rintro e u7 ⟨rfl, hb⟩
        clear qr0 qr1 qr2
        have hb_7 := hid hb
        have Kr_7 := hid (Kr_6.out.step hb_7.out)
        have Kt_7 := hid (Kt_6.out.step hb_7.out)
        have Ku_7 := hid (Ku_6.out.step hb_7.out)
        have Lr_7 := hid (Lr_6.out.step hb_7.out)
        have B_7 := hid (B_6.out.trans (hb_7.out.mono (by omega)))
        have z_7 : u6.heap.size ≤ u7.heap.size := hb_7.out.size
        clear Kr_6 Kt_6 Ku_6 Lr_6 B_6
        clear hb_7
        clear hb
        clear qt0 qt1 qu0 qu1
        obtain ⟨qr0, qr1, qr2⟩ := Kr_7.out.three
        go_wp2_with fail
        refine (StampMax_asR h1.out h2.out _ (Lr_7.out.ow.rd (by omega) (by omega)).s (Lr_7.out.ow.rd (by omega) (by omega)).h2 (Lr_7.out.ow.rd (by omega) (by omega)).k2 (Lr_7.out.ow.rd (by omega) (by omega)).m2).mono ?_
        rintro e u8 ⟨rfl, hb⟩
        clear qr0 qr1 qr2
        have hb_8 := hid hb
        have Kr_8 := hid (Kr_7.out.step hb_8.out)
        have Kt_8 := hid (Kt_7.out.step hb_8.out)
        have Ku_8 := hid (Ku_7.out.step hb_8.out)
        have Lr_8 := hid (Lr_7.out.step hb_8.out)
        have B_8 := hid (B_7.out.trans (hb_8.out.mono (by omega)))
        have z_8 : u7.heap.size ≤ u8.heap.size := hb_8.out.size
        clear Kr_7 Kt_7 Ku_7 Lr_7 B_7
        clear hb_8
        clear hb
        go_upto_region 9 with (fail)
        obtain ⟨u9, hu⟩ : ∃ W, (u8.alloc (.cells #[.int .i64 mt, .int .i64 mg] 33)) = W := ⟨_, rfl⟩
        rw [hu]
        have hb : Below u8.heap.size u8 u9 := by rw [← hu]; exact below1 _ _
        have hcy : Cs u9 (u8.heap.size) 33 #[.int .i64 mt, .int .i64 mg] := by rw [← hu]; exact Cs.new _ _ _
        clear hu
        have hb_9 := hid hb
        have Kr_9 := hid (Kr_8.out.step hb_9.out)
        have Kt_9 := hid (Kt_8.out.step hb_9.out)
        have Ku_9 := hid (Ku_8.out.step hb_9.out)
        have Lr_9 := hid (Lr_8.out.step hb_9.out)
        have B_9 := hid (B_8.out.trans (hb_9.out.mono (by omega)))
        have z_9 : u8.heap.size ≤ u9.heap.size := hb_9.out.size
        clear Kr_8 Kt_8 Ku_8 Lr_8 B_8
        clear hb_9
        clear hb
        have Ky_9 := hid hcy
        have yy_9 : u8.heap.size < u9.heap.size := hcy.lt
        clear hcy
        obtain ⟨qr0, qr1, qr2⟩ := Kr_9.out.three
        go_wp2_with fail
        refine (RoundMissing_lenR hM.out hkk.out _ (Lr_9.out.ow.rd (by omega) (by omega))).mono ?_
        rintro e u10 ⟨Am, cm, rfl, hb⟩
        clear qr0 qr1 qr2
        have hb_10 := hid hb
        have Kr_10 := hid (Kr_9.out.step hb_10.out)
        have Kt_10 := hid (Kt_9.out.step hb_10.out)
        have Ku_10 := hid (Ku_9.out.step hb_10.out)
        have Ky_10 := hid (Ky_9.out.step hb_10.out)
        have Lr_10 := hid (Lr_9.out.step hb_10.out)
        have B_10 := hid (B_9.out.trans (hb_10.out.mono (by omega)))
        have z_10 : u9.heap.size ≤ u10.heap.size := hb_10.out.size
        clear Kr_9 Kt_9 Ku_9 Ky_9 Lr_9 B_9
        clear hb_10
        clear hb
        obtain ⟨qy0, qy1, -, -⟩ := Ky_10.out.two
        obtain ⟨qt0, qt1, -, -⟩ := Kt_10.out.two
        go_wp2
        go_ret
        exact ⟨rfl, B_10.out⟩
      | true =>
        have hkk := hid (show M.length = 0 by simpa using hf)
        obtain ⟨h1, h2⟩ := fn_true hO.out
        rw [hF.out] at h1
        replace h1 := hid h1.symm
        replace h2 := hid h2
        clear hf
        obtain ⟨qt0, qt1, -, -⟩ := Kt_6.out.two
        obtain ⟨qu0, qu1, -, -⟩ := Ku_6.out.two
        obtain ⟨qr0, qr1, qr2⟩ := Kr_6.out.three
        go_wp2_with fail
        refine (RoundValid_spec hv.out _ (Lr_6.out.ow.rd (by omega) (by omega))).mono ?_
        rintro e u7 ⟨rfl, hb⟩
        clear qr0 qr1 qr2
        have hb_7 := hid hb
        have Kr_7 := hid (Kr_6.out.step hb_7.out)
        have Kt_7 := hid (Kt_6.out.step hb_7.out)
        have Ku_7 := hid (Ku_6.out.step hb_7.out)
        have Lr_7 := hid (Lr_6.out.step hb_7.out)
        have B_7 := hid (B_6.out.trans (hb_7.out.mono (by omega)))
        have z_7 : u6.heap.size ≤ u7.heap.size := hb_7.out.size
        clear Kr_6 Kt_6 Ku_6 Lr_6 B_6
        clear hb_7
        clear hb
        clear qt0 qt1 qu0 qu1
        obtain ⟨qr0, qr1, qr2⟩ := Kr_7.out.three
        go_wp2_with fail
        refine (StampMax_asR h1.out h2.out _ (Lr_7.out.ow.rd (by omega) (by omega)).s (Lr_7.out.ow.rd (by omega) (by omega)).h2 (Lr_7.out.ow.rd (by omega) (by omega)).k2 (Lr_7.out.ow.rd (by omega) (by omega)).m2).mono ?_
        rintro e u8 ⟨rfl, hb⟩
        clear qr0 qr1 qr2
        have hb_8 := hid hb
        have Kr_8 := hid (Kr_7.out.step hb_8.out)
        have Kt_8 := hid (Kt_7.out.step hb_8.out)
        have Ku_8 := hid (Ku_7.out.step hb_8.out)
        have Lr_8 := hid (Lr_7.out.step hb_8.out)
        have B_8 := hid (B_7.out.trans (hb_8.out.mono (by omega)))
        have z_8 : u7.heap.size ≤ u8.heap.size := hb_8.out.size
        clear Kr_7 Kt_7 Ku_7 Lr_7 B_7
        clear hb_8
        clear hb
        go_upto_region 9 with (fail)
        obtain ⟨u9, hu⟩ : ∃ W, (u8.alloc (.cells #[.int .i64 ft, .int .i64 fg] 33)) = W := ⟨_, rfl⟩
        rw [hu]
        have hb : Below u8.heap.size u8 u9 := by rw [← hu]; exact below1 _ _
        have hcy : Cs u9 (u8.heap.size) 33 #[.int .i64 ft, .int .i64 fg] := by rw [← hu]; exact Cs.new _ _ _
        clear hu
        have hb_9 := hid hb
        have Kr_9 := hid (Kr_8.out.step hb_9.out)
        have Kt_9 := hid (Kt_8.out.step hb_9.out)
        have Ku_9 := hid (Ku_8.out.step hb_9.out)
        have Lr_9 := hid (Lr_8.out.step hb_9.out)
        have B_9 := hid (B_8.out.trans (hb_9.out.mono (by omega)))
        have z_9 : u8.heap.size ≤ u9.heap.size := hb_9.out.size
        clear Kr_8 Kt_8 Ku_8 Lr_8 B_8
        clear hb_9
        clear hb
        have Ky_9 := hid hcy
        have yy_9 : u8.heap.size < u9.heap.size := hcy.lt
        clear hcy
        obtain ⟨qr0, qr1, qr2⟩ := Kr_9.out.three
        go_wp2_with fail
        refine (RoundMissing_lenR hM.out hkk.out _ (Lr_9.out.ow.rd (by omega) (by omega))).mono ?_
        rintro e u10 ⟨Am, cm, rfl, hb⟩
        clear qr0 qr1 qr2
        have hb_10 := hid hb
        have Kr_10 := hid (Kr_9.out.step hb_10.out)
        have Kt_10 := hid (Kt_9.out.step hb_10.out)
        have Ku_10 := hid (Ku_9.out.step hb_10.out)
        have Ky_10 := hid (Ky_9.out.step hb_10.out)
        have Lr_10 := hid (Lr_9.out.step hb_10.out)
        have B_10 := hid (B_9.out.trans (hb_10.out.mono (by omega)))
        have z_10 : u9.heap.size ≤ u10.heap.size := hb_10.out.size
        clear Kr_9 Kt_9 Ku_9 Ky_9 Lr_9 B_9
        clear hb_10
        clear hb
        obtain ⟨qy0, qy1, -, -⟩ := Ky_10.out.two
        obtain ⟨qt0, qt1, -, -⟩ := Kt_10.out.two
        go_wp2
        go_ret
        exact ⟨rfl, B_10.out⟩

theorem lawRoundFinal {a : Option Addr} {len cap : Nat} {zs : List Int} (w : World) (h : RowIs .u8 w a len cap zs) :
    Calls Try.prog 8 #[.slice a len cap] w fun e w' => e = .returned (.bool true) ∧ Below w.heap.size w w' :=
  lawRoundFinal_at w w h (Below.refl _ _) (Nat.le_refl _)
end Go.Proofs.Ytccggcdjajehnaa
