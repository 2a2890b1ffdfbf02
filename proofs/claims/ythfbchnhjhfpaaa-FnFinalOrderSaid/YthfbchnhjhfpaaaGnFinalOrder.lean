/-
  The walk of the law FnFinalOrder: it returns true, and nothing that was there is written. No condition.
-/
import Derived.Test.YthfbchnhjhfpaaaGnM
import Derived.Test.YthfbchnhjhfpaaaGnP
import Derived.Deep.CutBlock
import Derived.Deep.RegionLaw
import Derived.Deep.RegionHeld3
namespace Go.Proofs.Ythfbchnhjhfpaaa
open Go.RowKit
set_option linter.unusedVariables false
set_option linter.unusedSimpArgs false


set_option maxRecDepth 100000 in
set_option maxHeartbeats 16000000 in
theorem lawFinalOrder_at {a : Option Addr} {len cap : Nat} {zs : List Int} (w u0 : World) (h : RowIs .u8 u0 a len cap zs) (hB0 : Below w.heap.size w u0) (z_0 : w.heap.size ≤ u0.heap.size) :
    Calls Try.prog 11 #[.slice a len cap] u0 fun e w' => e = .returned (.bool true) ∧ Below w.heap.size w w' := by
  have hl := h.len_leN
  have B_0 := hid hB0
  have h' := hid h
  clear hB0 h
  by_cases hbig : 1048576 < len
  · go_enter Try.func11, Try.ntmps11
    go_wp2
    go_ret
    exact ⟨rfl, B_0.out⟩
  · go_enter Try.func11, Try.ntmps11
    go_wp2_with fail
    refine (DrawGroupValid_any _ h'.out).mono ?_
    rintro e u1 ⟨i, k, A0, c0, E0, d0, P, D, rfl, ho, hl, hb⟩
    have hb_1 := hid hb
    have B_1 := hid (B_0.out.trans (hb_1.out.mono (by omega)))
    have z_1 : u0.heap.size ≤ u1.heap.size := hb_1.out.size
    clear  B_0
    clear hb_1
    clear hb
    have hP13 : P.length ≤ 13 := by omega
    have hD13 : D.length ≤ 13 := by omega
    clear hl
    have LG_1 := hid (Lg.of ho)
    clear ho
    go_upto_region 4 with (fail)
    obtain ⟨u2, hu⟩ : ∃ W, (u1.alloc (.cells #[.int .i64 i, .int .i64 k, .slice A0 P.length c0, .slice E0 D.length d0] 26)) = W := ⟨_, rfl⟩
    rw [hu]
    have hb : Below u1.heap.size u1 u2 := by rw [← hu]; exact below1 _ _
    have hcG : Cs u2 (u1.heap.size) 26 #[.int .i64 i, .int .i64 k, .slice A0 P.length c0, .slice E0 D.length d0] := by rw [← hu]; exact Cs.new _ _ _
    clear hu
    have hb_2 := hid hb
    have LG_2 := hid (LG_1.out.step hb_2.out)
    have B_2 := hid (B_1.out.trans (hb_2.out.mono (by omega)))
    have z_2 : u1.heap.size ≤ u2.heap.size := hb_2.out.size
    clear LG_1 B_1
    clear hb_2
    clear hb
    have KG_2 := hid hcG
    have yG_2 : u1.heap.size < u2.heap.size := hcG.lt
    clear hcG
    cases hv : vdB ⟨i, k, P, D⟩ with
    | false =>
      have hv := hid hv
      obtain ⟨qG0, qG1, qG2, qG3⟩ := KG_2.out.four
      go_wp2_with fail
      refine (GroupValid_impl i k _ (LG_2.out.ow.rdg (by omega) (by omega))).mono ?_
      rw [hv.out]
      rintro e u3 ⟨rfl, hb⟩
      clear qG0 qG1 qG2 qG3
      have hb_3 := hid hb
      have KG_3 := hid (KG_2.out.step hb_3.out)
      have LG_3 := hid (LG_2.out.step hb_3.out)
      have B_3 := hid (B_2.out.trans (hb_3.out.mono (by omega)))
      have z_3 : u2.heap.size ≤ u3.heap.size := hb_3.out.size
      clear KG_2 LG_2 B_2
      clear hb_3
      clear hb
      obtain ⟨qG0, qG1, qG2, qG3⟩ := KG_3.out.four
      go_wp2_with fail
      refine (GroupValid_spec i k _ (LG_3.out.ow.rdg (by omega) (by omega))).mono ?_
      rw [hv.out]
      rintro e u4 ⟨rfl, hb⟩
      clear qG0 qG1 qG2 qG3
      have hb_4 := hid hb
      have KG_4 := hid (KG_3.out.step hb_4.out)
      have LG_4 := hid (LG_3.out.step hb_4.out)
      have B_4 := hid (B_3.out.trans (hb_4.out.mono (by omega)))
      have z_4 : u3.heap.size ≤ u4.heap.size := hb_4.out.size
      clear KG_3 LG_3 B_3
      clear hb_4
      clear hb
      go_wp2
      go_ret
      exact ⟨rfl, B_4.out⟩
    | true =>
      have hfo := hid (fo_D (vdB_true.1 hv))
      have hfp := hid (fo_P (vdB_true.1 hv))
      have hv := hid hv
      obtain ⟨qG0, qG1, qG2, qG3⟩ := KG_2.out.four
      go_wp2_with fail
      refine (GroupValid_impl i k _ (LG_2.out.ow.rdg (by omega) (by omega))).mono ?_
      rw [hv.out]
      rintro e u3 ⟨rfl, hb⟩
      clear qG0 qG1 qG2 qG3
      have hb_3 := hid hb
      have KG_3 := hid (KG_2.out.step hb_3.out)
      have LG_3 := hid (LG_2.out.step hb_3.out)
      have B_3 := hid (B_2.out.trans (hb_3.out.mono (by omega)))
      have z_3 : u2.heap.size ≤ u3.heap.size := hb_3.out.size
      clear KG_2 LG_2 B_2
      clear hb_3
      clear hb
      obtain ⟨qG0, qG1, qG2, qG3⟩ := KG_3.out.four
      go_wp2_with fail
      refine (GroupValid_spec i k _ (LG_3.out.ow.rdg (by omega) (by omega))).mono ?_
      rw [hv.out]
      rintro e u4 ⟨rfl, hb⟩
      clear qG0 qG1 qG2 qG3
      have hb_4 := hid hb
      have KG_4 := hid (KG_3.out.step hb_4.out)
      have LG_4 := hid (LG_3.out.step hb_4.out)
      have B_4 := hid (B_3.out.trans (hb_4.out.mono (by omega)))
      have z_4 : u3.heap.size ≤ u4.heap.size := hb_4.out.size
      clear KG_3 LG_3 B_3
      clear hb_4
      clear hb
      go_wp2_with fail
      go_loopw [6] (fun v wr => ∃ q : Nat, q ≤ D.length ∧ v = .int .i64 ((q : Int) + 1) ∧ Hid (Below u4.heap.size u4 wr)) (fun v _ => D.length + 2 - (intOf v).toNat)
      case atStart => exact ⟨0, by omega, by simp, hid (Below.refl _ _)⟩
      case round =>
        obtain ⟨q, hq, rfl, hB⟩ := hrel
        have hsz := hB.out.size
        have KG_r := hid (KG_4.out.step hB.out)
        have LG_r := hid (LG_4.out.step hB.out)
        obtain ⟨y0, y1, y2, y3⟩ := KG_r.out.four
        by_cases hlt : q + 1 < D.length
        · obtain ⟨b, off, m, t, g, f, rfl, hx, hb, v0, v1, v2, v3⟩ := LG_r.out.r2.at_ (k := q) (by omega)
          obtain ⟨b2, off2, m2, t2, g2, f2, e2, hx2, -, w0, w1, w2, w3⟩ := LG_r.out.r2.at_ hlt
          injection e2 with e2
          injection e2 with e3 e4
          subst e3; subst e4
          obtain ⟨hst, hff⟩ := hfo.out q _ _ hx.out hx2.out
          simp only at hst hff
          subst hff
          replace hst := hid hst
          have i0 : (0 : Int) ≤ (q : Int) := by omega
          have i1 : (q : Int) < (D.length : Int) := by omega
          have i2 : (0 : Int) ≤ (q : Int) + 1 := by omega
          have i3 : (q : Int) + 1 < (D.length : Int) := by omega
          have i4 : (q : Int) + 1 - 1 = (q : Int) := by omega
          have i5 : ((q : Int) + 1).toNat = q + 1 := by omega
          clear hx hx2
          have G3 : ∀ x : BW wr, x.wd.cell? ⟨u1.heap.size, 3, none⟩ = some (.slice (some ⟨b, off, none⟩) D.length d0) := fun x => x.cell y3
          have C1 : ∀ x : BW wr, x.wd.cell? ⟨b, off + q * 4 + 1, none⟩ = some (.int .i64 t) := fun x => x.cell v1
          have C2 : ∀ x : BW wr, x.wd.cell? ⟨b, off + q * 4 + 2, none⟩ = some (.int .i64 g) := fun x => x.cell v2
          have E1 : ∀ x : BW wr, x.wd.cell? ⟨b, off + (q + 1) * 4 + 1, none⟩ = some (.int .i64 t2) := fun x => x.cell w1
          have E2 : ∀ x : BW wr, x.wd.cell? ⟨b, off + (q + 1) * 4 + 2, none⟩ = some (.int .i64 g2) := fun x => x.cell w2
          have E3 : ∀ x : BW wr, x.wd.cell? ⟨b, off + (q + 1) * 4 + 3, none⟩ = some (.bool true) := fun x => x.cell w3
          clear v0 v1 v2 v3 w0 w1 w2 w3
          go_wp2_with fail
          clear y0 y1 y2 y3
          refine wp_region_below (by kernel_rfl) (by kernel_rfl) ?_
          repeat (go_big_quiet_step ((go_at_call 23; exact BW.call _ (StampLess_asN hst.out _))))
          refine wpQuiet_nil ?_
          intro w1 hb1
          have B5 := hid (hB.out.trans (hb1.mono hsz))
          clear hb1
          go_wp2
          go_roundw
          case rel => exact ⟨q + 1, by omega, by go_num, B5⟩
          case measure => simp [intOf]; omega
        · skip
          obtain ⟨u5, rfl⟩ : ∃ W, W = wr := ⟨_, rfl⟩
          have B_5 := hid (B_4.out.trans (hB.out.mono (by omega)))
          have z_5 : u4.heap.size ≤ u5.heap.size := hsz
          have KG_5 := KG_r
          clear KG_4 KG_r
          have LG_5 := LG_r
          clear LG_4 LG_r
          clear B_4 hB
          go_wp2_with fail
          go_loopw [7] (fun v wr => ∃ q : Nat, q ≤ P.length ∧ v = .int .i64 q ∧ Hid (Below u5.heap.size u5 wr)) (fun v _ => P.length - (intOf v).toNat)
          case atStart => exact ⟨0, by omega, rfl, hid (Below.refl _ _)⟩
          case round =>
            clear y0 y1 y2 y3
            obtain ⟨p, hp, rfl, hB⟩ := hrel
            have hsz := hB.out.size
            have KG_r := hid (KG_5.out.step hB.out)
            have LG_r := hid (LG_5.out.step hB.out)
            obtain ⟨y0, y1, y2, y3⟩ := KG_r.out.four
            by_cases hlt2 : p < P.length
            · obtain ⟨b, off, m, t, g, f, rfl, hx, hb, v0, v1, v2, v3⟩ := LG_r.out.r1.at_ hlt2
              have i0 : (0 : Int) ≤ (p : Int) := by omega
              have i1 : (p : Int) < (P.length : Int) := by omega
              have G2 : ∀ x : BW wr, x.wd.cell? ⟨u1.heap.size, 2, none⟩ = some (.slice (some ⟨b, off, none⟩) P.length c0) := fun x => x.cell y2
              have C1 : ∀ x : BW wr, x.wd.cell? ⟨b, off + p * 4 + 1, none⟩ = some (.int .i64 t) := fun x => x.cell v1
              have C2 : ∀ x : BW wr, x.wd.cell? ⟨b, off + p * 4 + 2, none⟩ = some (.int .i64 g) := fun x => x.cell v2
              rcases Nat.eq_zero_or_pos D.length with hn0 | hn0
              · have ig : ¬ ((0 : Int) < (D.length : Int)) := by omega
                have G3 : ∀ x : BW wr, x.wd.cell? ⟨u1.heap.size, 3, none⟩ = some (.slice E0 D.length d0) := fun x => x.cell y3
                have ig2 : decide (0 < D.length) = false := decide_eq_false (by omega)
                have ig3 : decide ((0 : Int) < (D.length : Int)) = false := decide_eq_false (by omega)
                have ig4 : ¬ 0 < D.length := by omega
                replace hn0 := hid hn0
                clear v0 v1 v2 v3 hx
                go_wp2_with fail
                clear y0 y1 y2 y3
                refine wp_region_below (by kernel_rfl) (by kernel_rfl) ?_
                repeat (go_big_quiet_step (fail))
                refine wpQuiet_nil ?_
                intro w1 hb1
                have B5 := hid (hB.out.trans (hb1.mono hsz))
                clear hb1
                go_wp2
                go_roundw
                case rel => exact ⟨p + 1, by omega, by go_num, B5⟩
                case measure => simp [intOf]; omega
              · have ig : (0 : Int) < (D.length : Int) := by omega
                obtain ⟨b2, off2, m2, t2, g2, f2, rfl, hx2, -, w0, w1, w2, w3⟩ := LG_r.out.r2.at_ (k := D.length - 1) (by omega)
                have hst := hid (hfp.out _ _ _ hx2.out (List.mem_of_getElem? hx.out))
                simp only at hst
                obtain ⟨dl, hdl⟩ : ∃ dl, D.length = dl + 1 := ⟨D.length - 1, by omega⟩
                have hd1 : D.length - 1 = dl := by omega
                rw [hd1] at w1 w2
                have i5 : (D.length : Int) - 1 = (dl : Int) := by omega
                have i6 : (0 : Int) ≤ (dl : Int) := by omega
                have i7 : (dl : Int) < (D.length : Int) := by omega
                clear hdl hd1 w0 w3 hx hx2 v0 v1 v2 v3
                have G3 : ∀ x : BW wr, x.wd.cell? ⟨u1.heap.size, 3, none⟩ = some (.slice (some ⟨b2, off2, none⟩) D.length d0) := fun x => x.cell y3
                have E1 : ∀ x : BW wr, x.wd.cell? ⟨b2, off2 + dl * 4 + 1, none⟩ = some (.int .i64 t2) := fun x => x.cell w1
                have E2 : ∀ x : BW wr, x.wd.cell? ⟨b2, off2 + dl * 4 + 2, none⟩ = some (.int .i64 g2) := fun x => x.cell w2
                clear w1 w2
                go_wp2_with fail
                clear y0 y1 y2 y3
                refine wp_region_below (by kernel_rfl) (by kernel_rfl) ?_
                repeat (go_big_quiet_step ((go_at_call 23; exact BW.call _ (StampLess_asN hst.out _))))
                refine wpQuiet_nil ?_
                intro w1 hb1
                have B5 := hid (hB.out.trans (hb1.mono hsz))
                clear hb1
                go_wp2
                go_roundw
                case rel => exact ⟨p + 1, by omega, by go_num, B5⟩
                case measure => simp [intOf]; omega
            · go_wp2
              go_ret
              exact ⟨rfl, B_5.out.trans (hB.out.mono (by omega))⟩

theorem lawFinalOrder {a : Option Addr} {len cap : Nat} {zs : List Int} (w : World) (h : RowIs .u8 w a len cap zs) :
    Calls Try.prog 11 #[.slice a len cap] w fun e w' => e = .returned (.bool true) ∧ Below w.heap.size w w' :=
  lawFinalOrder_at w w h (Below.refl _ _) (Nat.le_refl _)
end Go.Proofs.Ythfbchnhjhfpaaa
