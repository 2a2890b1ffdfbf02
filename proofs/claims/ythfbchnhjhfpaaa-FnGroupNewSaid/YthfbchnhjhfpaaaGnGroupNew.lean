/-
  The walk of the law FnGroupNew: it returns true, and nothing that was there is written. No condition.
-/
import Derived.Test.YthfbchnhjhfpaaaGnM
import Derived.Deep.CutBlock
import Derived.Deep.RegionLaw
import Derived.Deep.RegionHeld3
namespace Go.Proofs.Ythfbchnhjhfpaaa
open Go.RowKit
set_option linter.unusedVariables false
set_option linter.unusedSimpArgs false


set_option maxRecDepth 100000 in
set_option maxHeartbeats 16000000 in
theorem lawGroupNew_at {a : Option Addr} {len cap : Nat} {zs : List Int} (w u0 : World) (h : RowIs .u8 u0 a len cap zs) (hB0 : Below w.heap.size w u0) (z_0 : w.heap.size ≤ u0.heap.size) :
    Calls Try.prog 3 #[.slice a len cap] u0 fun e w' => e = .returned (.bool true) ∧ Below w.heap.size w w' := by
  have hl := h.len_leN
  have B_0 := hid hB0
  have h' := hid h
  clear hB0 h
  by_cases hbig : 1048576 < len
  · go_enter Try.func3, Try.ntmps3
    go_wp2
    go_ret
    exact ⟨rfl, B_0.out⟩
  · go_enter Try.func3, Try.ntmps3
    go_wp2_with fail
    refine (DrawGroupNew_any _ h'.out).mono ?_
    rintro e u1 ⟨id, rfl, hb⟩
    have hb_1 := hid hb
    have B_1 := hid (B_0.out.trans (hb_1.out.mono (by omega)))
    have z_1 : u0.heap.size ≤ u1.heap.size := hb_1.out.size
    clear  B_0
    clear hb_1
    clear hb
    obtain ⟨z, hz⟩ : ∃ z, (if grB id then id else 0) = z := ⟨_, rfl⟩
    obtain ⟨b, hb'⟩ : ∃ b, grB id = b := ⟨_, rfl⟩
    have hzb := hz
    rw [hb'] at hzb
    replace hz := hid hz
    have hbb := hid hb'
    clear hb'
    go_wp2_with fail
    refine (GroupNew_asN_impl hz.out hbb.out _).mono ?_
    rintro e u2 ⟨Ag, cg, Bg, dg, rfl, og, hb⟩
    have hb_2 := hid hb
    have B_2 := hid (B_1.out.trans (hb_2.out.mono (by omega)))
    have z_2 : u1.heap.size ≤ u2.heap.size := hb_2.out.size
    clear  B_1
    clear hb_2
    clear hb
    have Lo_2 := hid (Lg.of og)
    clear og
    go_upto_region 5 with (fail)
    obtain ⟨u3, hu⟩ : ∃ W, (u2.alloc (.cells #[.int .i64 z, .int .i64 0, .slice Ag 0 cg, .slice Bg 0 dg] 26)) = W := ⟨_, rfl⟩
    rw [hu]
    have hb : Below u2.heap.size u2 u3 := by rw [← hu]; exact below1 _ _
    have hco : Cs u3 (u2.heap.size) 26 #[.int .i64 z, .int .i64 0, .slice Ag 0 cg, .slice Bg 0 dg] := by rw [← hu]; exact Cs.new _ _ _
    clear hu
    have hb_3 := hid hb
    have Lo_3 := hid (Lo_2.out.step hb_3.out)
    have B_3 := hid (B_2.out.trans (hb_3.out.mono (by omega)))
    have z_3 : u2.heap.size ≤ u3.heap.size := hb_3.out.size
    clear Lo_2 B_2
    clear hb_3
    clear hb
    have Ko_3 := hid hco
    have yo_3 : u2.heap.size < u3.heap.size := hco.lt
    clear hco
    go_wp2_with fail
    refine (GroupNew_asN_spec hz.out hbb.out _).mono ?_
    rintro e u4 ⟨Aw, cw, Bw, dw, rfl, ow, hb⟩
    have hb_4 := hid hb
    have Ko_4 := hid (Ko_3.out.step hb_4.out)
    have Lo_4 := hid (Lo_3.out.step hb_4.out)
    have B_4 := hid (B_3.out.trans (hb_4.out.mono (by omega)))
    have z_4 : u3.heap.size ≤ u4.heap.size := hb_4.out.size
    clear Ko_3 Lo_3 B_3
    clear hb_4
    clear hb
    have Lw_4 := hid (Lg.of ow)
    clear ow
    go_upto_region 6 with (fail)
    obtain ⟨u5, hu⟩ : ∃ W, (u4.alloc (.cells #[.int .i64 z, .int .i64 0, .slice Aw 0 cw, .slice Bw 0 dw] 26)) = W := ⟨_, rfl⟩
    rw [hu]
    have hb : Below u4.heap.size u4 u5 := by rw [← hu]; exact below1 _ _
    have hcw : Cs u5 (u4.heap.size) 26 #[.int .i64 z, .int .i64 0, .slice Aw 0 cw, .slice Bw 0 dw] := by rw [← hu]; exact Cs.new _ _ _
    clear hu
    have hb_5 := hid hb
    have Ko_5 := hid (Ko_4.out.step hb_5.out)
    have Lo_5 := hid (Lo_4.out.step hb_5.out)
    have Lw_5 := hid (Lw_4.out.step hb_5.out)
    have B_5 := hid (B_4.out.trans (hb_5.out.mono (by omega)))
    have z_5 : u4.heap.size ≤ u5.heap.size := hb_5.out.size
    clear Ko_4 Lo_4 Lw_4 B_4
    clear hb_5
    clear hb
    have Kw_5 := hid hcw
    have yw_5 : u4.heap.size < u5.heap.size := hcw.lt
    clear hcw
    cases b with
    | false =>
      obtain ⟨qo0, qo1, qo2, qo3⟩ := Ko_5.out.four
      obtain ⟨qw0, qw1, qw2, qw3⟩ := Kw_5.out.four
      go_wp2_with fail
      refine (sameGroup_same z 0 _ Lo_5.out.r1 Lo_5.out.r2 Lw_5.out.r1 Lw_5.out.r2 (by omega) (by omega)).mono ?_
      rintro e u6 ⟨rfl, hb⟩
      clear qo0 qo1 qo2 qo3 qw0 qw1 qw2 qw3
      have hb_6 := hid hb
      have Ko_6 := hid (Ko_5.out.step hb_6.out)
      have Kw_6 := hid (Kw_5.out.step hb_6.out)
      have Lo_6 := hid (Lo_5.out.step hb_6.out)
      have Lw_6 := hid (Lw_5.out.step hb_6.out)
      have B_6 := hid (B_5.out.trans (hb_6.out.mono (by omega)))
      have z_6 : u5.heap.size ≤ u6.heap.size := hb_6.out.size
      clear Ko_5 Kw_5 Lo_5 Lw_5 B_5
      clear hb_6
      clear hb
      obtain ⟨qo0, qo1, qo2, qo3⟩ := Ko_6.out.four
      obtain ⟨qw0, qw1, qw2, qw3⟩ := Kw_6.out.four
      go_wp2_with fail
      refine (sameGroup_same z 0 _ Lo_6.out.r1 Lo_6.out.r2 Lw_6.out.r1 Lw_6.out.r2 (by omega) (by omega)).mono ?_
      rintro e u7 ⟨rfl, hb⟩
      clear qo0 qo1 qo2 qo3 qw0 qw1 qw2 qw3
      have hb_7 := hid hb
      have Ko_7 := hid (Ko_6.out.step hb_7.out)
      have Kw_7 := hid (Kw_6.out.step hb_7.out)
      have Lo_7 := hid (Lo_6.out.step hb_7.out)
      have Lw_7 := hid (Lw_6.out.step hb_7.out)
      have B_7 := hid (B_6.out.trans (hb_7.out.mono (by omega)))
      have z_7 : u6.heap.size ≤ u7.heap.size := hb_7.out.size
      clear Ko_6 Kw_6 Lo_6 Lw_6 B_6
      clear hb_7
      clear hb
      go_wp2
      go_ret
      exact ⟨rfl, B_7.out⟩
    | true =>
      have hzi : id = z := hzb
      subst hzi
      have hvd := hid (nw_valid hbb.out)
      have htr := hid (show trR ⟨id, 0, [], []⟩ = [] by unfold trR; rw [hvd.out]; rfl)
      have hbl := hid (show blR ⟨id, 0, [], []⟩ = -1 by unfold blR; rw [hvd.out]; rfl)
      have e9 : (id == id) = true := by simp
      clear hzb
      obtain ⟨qo0, qo1, qo2, qo3⟩ := Ko_5.out.four
      obtain ⟨qw0, qw1, qw2, qw3⟩ := Kw_5.out.four
      go_wp2_with fail
      refine (sameGroup_same id 0 _ Lo_5.out.r1 Lo_5.out.r2 Lw_5.out.r1 Lw_5.out.r2 (by omega) (by omega)).mono ?_
      rintro e u6 ⟨rfl, hb⟩
      clear qo0 qo1 qo2 qo3 qw0 qw1 qw2 qw3
      have hb_6 := hid hb
      have Ko_6 := hid (Ko_5.out.step hb_6.out)
      have Kw_6 := hid (Kw_5.out.step hb_6.out)
      have Lo_6 := hid (Lo_5.out.step hb_6.out)
      have Lw_6 := hid (Lw_5.out.step hb_6.out)
      have B_6 := hid (B_5.out.trans (hb_6.out.mono (by omega)))
      have z_6 : u5.heap.size ≤ u6.heap.size := hb_6.out.size
      clear Ko_5 Kw_5 Lo_5 Lw_5 B_5
      clear hb_6
      clear hb
      obtain ⟨qo0, qo1, qo2, qo3⟩ := Ko_6.out.four
      go_wp2_with fail
      refine (GroupValid_impl id 0 _ (Lo_6.out.ow.rdg (by omega) (by omega))).mono ?_
      rw [hvd.out]
      rintro e u7 ⟨rfl, hb⟩
      clear qo0 qo1 qo2 qo3
      have hb_7 := hid hb
      have Ko_7 := hid (Ko_6.out.step hb_7.out)
      have Kw_7 := hid (Kw_6.out.step hb_7.out)
      have Lo_7 := hid (Lo_6.out.step hb_7.out)
      have Lw_7 := hid (Lw_6.out.step hb_7.out)
      have B_7 := hid (B_6.out.trans (hb_7.out.mono (by omega)))
      have z_7 : u6.heap.size ≤ u7.heap.size := hb_7.out.size
      clear Ko_6 Kw_6 Lo_6 Lw_6 B_6
      clear hb_7
      clear hb
      obtain ⟨qo0, qo1, qo2, qo3⟩ := Ko_7.out.four
      go_wp2_with fail
      refine (GroupTrace_impl htr.out _ (Lo_7.out.ow.rdg (by omega) (by omega))).mono ?_
      rintro e u8 ⟨At, ct, rfl, -, hb⟩
      clear qo0 qo1 qo2 qo3
      have hb_8 := hid hb
      have Ko_8 := hid (Ko_7.out.step hb_8.out)
      have Kw_8 := hid (Kw_7.out.step hb_8.out)
      have Lo_8 := hid (Lo_7.out.step hb_8.out)
      have Lw_8 := hid (Lw_7.out.step hb_8.out)
      have B_8 := hid (B_7.out.trans (hb_8.out.mono (by omega)))
      have z_8 : u7.heap.size ≤ u8.heap.size := hb_8.out.size
      clear Ko_7 Kw_7 Lo_7 Lw_7 B_7
      clear hb_8
      clear hb
      obtain ⟨qo0, qo1, qo2, qo3⟩ := Ko_8.out.four
      go_wp2_with fail
      refine (GroupBlocked_impl hbl.out _ (Lo_8.out.ow.rdg (by omega) (by omega))).mono ?_
      rintro e u9 ⟨rfl, hb⟩
      clear qo0 qo1 qo2 qo3
      have hb_9 := hid hb
      have Ko_9 := hid (Ko_8.out.step hb_9.out)
      have Kw_9 := hid (Kw_8.out.step hb_9.out)
      have Lo_9 := hid (Lo_8.out.step hb_9.out)
      have Lw_9 := hid (Lw_8.out.step hb_9.out)
      have B_9 := hid (B_8.out.trans (hb_9.out.mono (by omega)))
      have z_9 : u8.heap.size ≤ u9.heap.size := hb_9.out.size
      clear Ko_8 Kw_8 Lo_8 Lw_8 B_8
      clear hb_9
      clear hb
      go_wp2
      go_ret
      exact ⟨rfl, B_9.out⟩

theorem lawGroupNew {a : Option Addr} {len cap : Nat} {zs : List Int} (w : World) (h : RowIs .u8 w a len cap zs) :
    Calls Try.prog 3 #[.slice a len cap] w fun e w' => e = .returned (.bool true) ∧ Below w.heap.size w w' :=
  lawGroupNew_at w w h (Below.refl _ _) (Nat.le_refl _)
end Go.Proofs.Ythfbchnhjhfpaaa
