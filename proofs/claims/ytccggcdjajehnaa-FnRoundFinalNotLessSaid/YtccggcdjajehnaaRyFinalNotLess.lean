/-
  The walk of the law FnRoundFinalNotLess: it returns true, and nothing that was there is written. No condition.
-/
import Derived.Test.YtccggcdjajehnaaRmY
import Derived.Test.YtccggcdjajehnaaRyM
import Derived.Test.YtccggcdjajehnaaRmI
import Derived.Test.YtccggcdjajehnaaStG
import Derived.Deep.CutBlock
import Derived.Deep.RegionLaw
import Derived.Deep.RegionHeld3
import Derived.Deep.DeepCutAuto
namespace Go.Proofs.Ytccggcdjajehnaa
open Go.RowKit
set_option linter.unusedVariables false
set_option linter.unusedSimpArgs false


theorem StampLess_asR {a b c d : Int} {r : Bool} (h : stL a b c d = r) (w : World) : Calls Try.prog 30 #[two a b, two c d] w fun e w' => e = .returned (.bool r) ∧ Below w.heap.size w w' := by
  have := StampLess_impl a b c d w; rw [h] at this; exact this


set_option maxRecDepth 100000 in
set_option maxHeartbeats 16000000 in
theorem lawRoundFinalNotLess_at {a : Option Addr} {len cap : Nat} {zs : List Int} (w u0 : World) (h : RowIs .u8 u0 a len cap zs) (hB0 : Below w.heap.size w u0) (z_0 : w.heap.size ≤ u0.heap.size) :
    Calls Try.prog 9 #[.slice a len cap] u0 fun e w' => e = .returned (.bool true) ∧ Below w.heap.size w w' := by
  have hl := h.len_leR
  have B_0 := hid hB0
  have h' := hid h
  clear hB0 h
  by_cases hbig : 1048576 < len
  · go_enter Try.func9, Try.ntmps9
    go_wp2
    go_ret
    exact ⟨rfl, B_0.out⟩
  · go_enter Try.func9, Try.ntmps9
    go_wp2_with fail
    refine (DrawRoundFinal_any _ h'.out).mono ?_
    rintro e u1 ⟨m, A1, c1, A2, c2, gs, xs, rfl, o1, ⟨hl1, hl2⟩, hb⟩
    have hb_1 := hid hb
    have B_1 := hid (B_0.out.trans (hb_1.out.mono (by omega)))
    have z_1 : u0.heap.size ≤ u1.heap.size := hb_1.out.size
    clear  B_0
    clear hb_1
    clear hb
    have Lr_1 := hid (Lr.of o1)
    clear o1
    go_upto_region 4 with (fail)
    obtain ⟨u2, hu⟩ : ∃ W, (u1.alloc (.cells #[.int .i64 m, .slice A1 gs.length c1, .slice A2 xs.length c2] 28)) = W := ⟨_, rfl⟩
    rw [hu]
    have hb : Below u1.heap.size u1 u2 := by rw [← hu]; exact below1 _ _
    have hcr : Cs u2 (u1.heap.size) 28 #[.int .i64 m, .slice A1 gs.length c1, .slice A2 xs.length c2] := by rw [← hu]; exact Cs.new _ _ _
    clear hu
    have hb_2 := hid hb
    have Lr_2 := hid (Lr_1.out.step hb_2.out)
    have B_2 := hid (B_1.out.trans (hb_2.out.mono (by omega)))
    have z_2 : u1.heap.size ≤ u2.heap.size := hb_2.out.size
    clear Lr_1 B_1
    clear hb_2
    clear hb
    have Kr_2 := hid hcr
    have yr_2 : u1.heap.size < u2.heap.size := hcr.lt
    clear hcr
    obtain ⟨ft, fg, hF⟩ : ∃ ft fg, fnR m gs xs = (ft, fg) := ⟨_, _, rfl⟩
    obtain ⟨ok, hO⟩ : ∃ ok, fnB m gs xs = ok := ⟨_, rfl⟩
    replace hF := hid hF
    replace hO := hid hO
    have e0 : (ft == ft) = true := by simp
    have e1 : (fg == fg) = true := by simp
    obtain ⟨qr0, qr1, qr2⟩ := Kr_2.out.three
    go_wp2_with fail
    refine (RoundFinal_impl hF.out hO.out _ (Lr_2.out.ow.rd (by omega) (by omega))).mono ?_
    rintro e u3 ⟨rfl, hb⟩
    clear qr0 qr1 qr2
    have hb_3 := hid hb
    have Kr_3 := hid (Kr_2.out.step hb_3.out)
    have Lr_3 := hid (Lr_2.out.step hb_3.out)
    have B_3 := hid (B_2.out.trans (hb_3.out.mono (by omega)))
    have z_3 : u2.heap.size ≤ u3.heap.size := hb_3.out.size
    clear Kr_2 Lr_2 B_2
    clear hb_3
    clear hb
    go_upto_region 5 with (fail)
    obtain ⟨u4, hu⟩ : ∃ W, (u3.alloc (.cells #[.int .i64 ft, .int .i64 fg] 33)) = W := ⟨_, rfl⟩
    rw [hu]
    have hb : Below u3.heap.size u3 u4 := by rw [← hu]; exact below1 _ _
    have hct : Cs u4 (u3.heap.size) 33 #[.int .i64 ft, .int .i64 fg] := by rw [← hu]; exact Cs.new _ _ _
    clear hu
    have hb_4 := hid hb
    have Kr_4 := hid (Kr_3.out.step hb_4.out)
    have Lr_4 := hid (Lr_3.out.step hb_4.out)
    have B_4 := hid (B_3.out.trans (hb_4.out.mono (by omega)))
    have z_4 : u3.heap.size ≤ u4.heap.size := hb_4.out.size
    clear Kr_3 Lr_3 B_3
    clear hb_4
    clear hb
    have Kt_4 := hid hct
    have yt_4 : u3.heap.size < u4.heap.size := hct.lt
    clear hct
    obtain ⟨qr0, qr1, qr2⟩ := Kr_4.out.three
    go_wp2_with fail
    refine (RoundFinal_spec hF.out hO.out _ (Lr_4.out.ow.rd (by omega) (by omega))).mono ?_
    rintro e u5 ⟨rfl, hb⟩
    clear qr0 qr1 qr2
    have hb_5 := hid hb
    have Kr_5 := hid (Kr_4.out.step hb_5.out)
    have Kt_5 := hid (Kt_4.out.step hb_5.out)
    have Lr_5 := hid (Lr_4.out.step hb_5.out)
    have B_5 := hid (B_4.out.trans (hb_5.out.mono (by omega)))
    have z_5 : u4.heap.size ≤ u5.heap.size := hb_5.out.size
    clear Kr_4 Kt_4 Lr_4 B_4
    clear hb_5
    clear hb
    go_upto_region 6 with (fail)
    obtain ⟨u6, hu⟩ : ∃ W, (u5.alloc (.cells #[.int .i64 ft, .int .i64 fg] 33)) = W := ⟨_, rfl⟩
    rw [hu]
    have hb : Below u5.heap.size u5 u6 := by rw [← hu]; exact below1 _ _
    have hcu : Cs u6 (u5.heap.size) 33 #[.int .i64 ft, .int .i64 fg] := by rw [← hu]; exact Cs.new _ _ _
    clear hu
    have hb_6 := hid hb
    have Kr_6 := hid (Kr_5.out.step hb_6.out)
    have Kt_6 := hid (Kt_5.out.step hb_6.out)
    have Lr_6 := hid (Lr_5.out.step hb_6.out)
    have B_6 := hid (B_5.out.trans (hb_6.out.mono (by omega)))
    have z_6 : u5.heap.size ≤ u6.heap.size := hb_6.out.size
    clear Kr_5 Kt_5 Lr_5 B_5
    clear hb_6
    clear hb
    have Ku_6 := hid hcu
    have yu_6 : u5.heap.size < u6.heap.size := hcu.lt
    clear hcu
    cases ok with
    | false =>
      obtain ⟨qt0, qt1, -, -⟩ := Kt_6.out.two
      obtain ⟨qu0, qu1, -, -⟩ := Ku_6.out.two
      go_wp2
      go_ret
      exact ⟨rfl, B_6.out⟩
    | true =>
      obtain ⟨hs, hn⟩ := fn_not_less hO.out hF.out
      replace hs := hid hs
      replace hn := hid hn
      obtain ⟨qt0, qt1, -, -⟩ := Kt_6.out.two
      obtain ⟨qu0, qu1, -, -⟩ := Ku_6.out.two
      go_wp2_with fail
      clear qt0 qt1 qu0 qu1
      go_loopw [8, 9] (fun f v wr => ∃ k : Nat, k ≤ xs.length ∧ v = .int .i64 k ∧ f = .bool (hasS (xs.take k) (ft, fg)) ∧ Hid (Below u6.heap.size u6 wr)) (fun _ v _ => xs.length - (intOf v).toNat)
      case atStart => exact ⟨0, by omega, rfl, rfl, hid (Below.refl _ _)⟩
      case round =>
        obtain ⟨k, hk, rfl, rfl, hB⟩ := hrel
        have hsz := hB.out.size
        have Kr_r := hid (Kr_6.out.step hB.out)
        have Kt_r := hid (Kt_6.out.step hB.out)
        have Ku_r := hid (Ku_6.out.step hB.out)
        have Lr_r := hid (Lr_6.out.step hB.out)
        obtain ⟨y0, y1, y2⟩ := Kr_r.out.three
        obtain ⟨s0, s1, -, -⟩ := Kt_r.out.two
        by_cases hlt : k < xs.length
        · obtain ⟨b, off, t, g, rfl, hx, hb, v0, v1⟩ := Lr_r.out.r2.at_ hlt
          have i0 : (0 : Int) ≤ (k : Int) := by omega
          have i1 : (k : Int) < (xs.length : Int) := by omega
          have htk := hasS_snoc hx.out (ft, fg)
          simp only at htk
          have hst := hid (hn.out k _ hx.out)
          skip
          have G3 : ∀ x : BW wr, x.wd.cell? ⟨u1.heap.size, 2, none⟩ = some (.slice (some ⟨b, off, none⟩) xs.length c2) := fun x => x.cell y2
          have S0 : ∀ x : BW wr, x.wd.cell? ⟨u3.heap.size, 0, none⟩ = some (.int .i64 ft) := fun x => x.cell s0
          have S1 : ∀ x : BW wr, x.wd.cell? ⟨u3.heap.size, 1, none⟩ = some (.int .i64 fg) := fun x => x.cell s1
          have C0 : ∀ x : BW wr, x.wd.cell? ⟨b, off + k * 2, none⟩ = some (.int .i64 t) := fun x => x.cell v0
          have C1 : ∀ x : BW wr, x.wd.cell? ⟨b, off + k * 2 + 1, none⟩ = some (.int .i64 g) := fun x => x.cell v1
          obtain ⟨fd, hfd⟩ : ∃ fd, hasS (xs.take k) (ft, fg) = fd := ⟨_, rfl⟩
          rw [hfd] at htk
          rw [hfd]
          replace htk := hid htk
          clear hfd hx v0 v1
          cases fd with
          | true =>
            go_wp2_with fail
            clear y0 y1 y2 s0 s1
            refine wp_region_below (by kernel_rfl) (by kernel_rfl) ?_
            repeat (go_big_quiet_step (fail))
            refine wpQuiet_nil ?_
            intro w1 hb1
            have D0 : ∀ x : BW w1, x.wd.cell? ⟨b, off + k * 2, none⟩ = some (.int .i64 t) := fun x => C0 ⟨x.wd, hb1.trans (x.below.mono hb1.size)⟩
            have D1 : ∀ x : BW w1, x.wd.cell? ⟨b, off + k * 2 + 1, none⟩ = some (.int .i64 g) := fun x => C1 ⟨x.wd, hb1.trans (x.below.mono hb1.size)⟩
            have G4 : ∀ x : BW w1, x.wd.cell? ⟨u1.heap.size, 2, none⟩ = some (.slice (some ⟨b, off, none⟩) xs.length c2) := fun x => G3 ⟨x.wd, hb1.trans (x.below.mono hb1.size)⟩
            have T0 : ∀ x : BW w1, x.wd.cell? ⟨u3.heap.size, 0, none⟩ = some (.int .i64 ft) := fun x => S0 ⟨x.wd, hb1.trans (x.below.mono hb1.size)⟩
            have T1 : ∀ x : BW w1, x.wd.cell? ⟨u3.heap.size, 1, none⟩ = some (.int .i64 fg) := fun x => S1 ⟨x.wd, hb1.trans (x.below.mono hb1.size)⟩
            have B5 := hid (hB.out.trans (hb1.mono hsz))
            have hs5 := B5.out.size
            clear hb1 C0 C1 G3 S0 S1
            go_wp2_with fail
            refine wp_region_below (by kernel_rfl) (by kernel_rfl) ?_
            repeat (go_big_quiet_step ((go_at_call 30; exact BW.call _ (StampLess_asR hst.out _))))
            refine wpQuiet_nil ?_
            intro w2 hb2
            have B6 := hid (B5.out.trans (hb2.mono hs5))
            clear hb2
            go_wp2
            go_roundw
            case rel => exact ⟨k + 1, by omega, by go_num, by rw [htk.out]; rfl, B6⟩
            case measure => simp [intOf]; omega
          | false =>
            by_cases ht : t = ft
            · subst ht
              by_cases hgg : g = fg
              · subst hgg
                go_wp2_with fail
                clear y0 y1 y2 s0 s1
                refine wp_region_below (by kernel_rfl) (by kernel_rfl) ?_
                repeat (go_big_quiet_step (fail))
                refine wpQuiet_nil ?_
                intro w1 hb1
                have D0 : ∀ x : BW w1, x.wd.cell? ⟨b, off + k * 2, none⟩ = some (.int .i64 t) := fun x => C0 ⟨x.wd, hb1.trans (x.below.mono hb1.size)⟩
                have D1 : ∀ x : BW w1, x.wd.cell? ⟨b, off + k * 2 + 1, none⟩ = some (.int .i64 g) := fun x => C1 ⟨x.wd, hb1.trans (x.below.mono hb1.size)⟩
                have G4 : ∀ x : BW w1, x.wd.cell? ⟨u1.heap.size, 2, none⟩ = some (.slice (some ⟨b, off, none⟩) xs.length c2) := fun x => G3 ⟨x.wd, hb1.trans (x.below.mono hb1.size)⟩
                have T0 : ∀ x : BW w1, x.wd.cell? ⟨u3.heap.size, 0, none⟩ = some (.int .i64 t) := fun x => S0 ⟨x.wd, hb1.trans (x.below.mono hb1.size)⟩
                have T1 : ∀ x : BW w1, x.wd.cell? ⟨u3.heap.size, 1, none⟩ = some (.int .i64 g) := fun x => S1 ⟨x.wd, hb1.trans (x.below.mono hb1.size)⟩
                have B5 := hid (hB.out.trans (hb1.mono hsz))
                have hs5 := B5.out.size
                clear hb1 C0 C1 G3 S0 S1
                go_wp2_with fail
                refine wp_region_below (by kernel_rfl) (by kernel_rfl) ?_
                repeat (go_big_quiet_step ((go_at_call 30; exact BW.call _ (StampLess_asR hst.out _))))
                refine wpQuiet_nil ?_
                intro w2 hb2
                have B6 := hid (B5.out.trans (hb2.mono hs5))
                clear hb2
                go_wp2
                go_roundw
                case rel => exact ⟨k + 1, by omega, by go_num, by rw [htk.out]; simp, B6⟩
                case measure => simp [intOf]; omega
              · have e6 : (g == fg) = false := by simp [hgg]
                replace hgg := hid hgg
                go_wp2_with fail
                clear y0 y1 y2 s0 s1
                refine wp_region_below (by kernel_rfl) (by kernel_rfl) ?_
                repeat (go_big_quiet_step (fail))
                refine wpQuiet_nil ?_
                intro w1 hb1
                have D0 : ∀ x : BW w1, x.wd.cell? ⟨b, off + k * 2, none⟩ = some (.int .i64 t) := fun x => C0 ⟨x.wd, hb1.trans (x.below.mono hb1.size)⟩
                have D1 : ∀ x : BW w1, x.wd.cell? ⟨b, off + k * 2 + 1, none⟩ = some (.int .i64 g) := fun x => C1 ⟨x.wd, hb1.trans (x.below.mono hb1.size)⟩
                have G4 : ∀ x : BW w1, x.wd.cell? ⟨u1.heap.size, 2, none⟩ = some (.slice (some ⟨b, off, none⟩) xs.length c2) := fun x => G3 ⟨x.wd, hb1.trans (x.below.mono hb1.size)⟩
                have T0 : ∀ x : BW w1, x.wd.cell? ⟨u3.heap.size, 0, none⟩ = some (.int .i64 t) := fun x => S0 ⟨x.wd, hb1.trans (x.below.mono hb1.size)⟩
                have T1 : ∀ x : BW w1, x.wd.cell? ⟨u3.heap.size, 1, none⟩ = some (.int .i64 fg) := fun x => S1 ⟨x.wd, hb1.trans (x.below.mono hb1.size)⟩
                have B5 := hid (hB.out.trans (hb1.mono hsz))
                have hs5 := B5.out.size
                clear hb1 C0 C1 G3 S0 S1
                go_wp2_with fail
                refine wp_region_below (by kernel_rfl) (by kernel_rfl) ?_
                repeat (go_big_quiet_step ((go_at_call 30; exact BW.call _ (StampLess_asR hst.out _))))
                refine wpQuiet_nil ?_
                intro w2 hb2
                have B6 := hid (B5.out.trans (hb2.mono hs5))
                clear hb2
                go_wp2
                go_roundw
                case rel => exact ⟨k + 1, by omega, by go_num, by rw [htk.out]; simp [hgg.out], B6⟩
                case measure => simp [intOf]; omega
            · have e7 : (t == ft) = false := by simp [ht]
              replace ht := hid ht
              go_wp2_with fail
              clear y0 y1 y2 s0 s1
              refine wp_region_below (by kernel_rfl) (by kernel_rfl) ?_
              repeat (go_big_quiet_step (fail))
              refine wpQuiet_nil ?_
              intro w1 hb1
              have D0 : ∀ x : BW w1, x.wd.cell? ⟨b, off + k * 2, none⟩ = some (.int .i64 t) := fun x => C0 ⟨x.wd, hb1.trans (x.below.mono hb1.size)⟩
              have D1 : ∀ x : BW w1, x.wd.cell? ⟨b, off + k * 2 + 1, none⟩ = some (.int .i64 g) := fun x => C1 ⟨x.wd, hb1.trans (x.below.mono hb1.size)⟩
              have G4 : ∀ x : BW w1, x.wd.cell? ⟨u1.heap.size, 2, none⟩ = some (.slice (some ⟨b, off, none⟩) xs.length c2) := fun x => G3 ⟨x.wd, hb1.trans (x.below.mono hb1.size)⟩
              have T0 : ∀ x : BW w1, x.wd.cell? ⟨u3.heap.size, 0, none⟩ = some (.int .i64 ft) := fun x => S0 ⟨x.wd, hb1.trans (x.below.mono hb1.size)⟩
              have T1 : ∀ x : BW w1, x.wd.cell? ⟨u3.heap.size, 1, none⟩ = some (.int .i64 fg) := fun x => S1 ⟨x.wd, hb1.trans (x.below.mono hb1.size)⟩
              have B5 := hid (hB.out.trans (hb1.mono hsz))
              have hs5 := B5.out.size
              clear hb1 C0 C1 G3 S0 S1
              go_wp2_with fail
              refine wp_region_below (by kernel_rfl) (by kernel_rfl) ?_
              repeat (go_big_quiet_step ((go_at_call 30; exact BW.call _ (StampLess_asR hst.out _))))
              refine wpQuiet_nil ?_
              intro w2 hb2
              have B6 := hid (B5.out.trans (hb2.mono hs5))
              clear hb2
              go_wp2
              go_roundw
              case rel => exact ⟨k + 1, by omega, by go_num, by rw [htk.out]; simp [ht.out], B6⟩
              case measure => simp [intOf]; omega
        · have hke : k = xs.length := by omega
          subst hke
          rw [List.take_length, hs.out]
          go_wp2
          go_ret
          exact ⟨rfl, B_6.out.trans (hB.out.mono (by omega))⟩

theorem lawRoundFinalNotLess {a : Option Addr} {len cap : Nat} {zs : List Int} (w : World) (h : RowIs .u8 w a len cap zs) :
    Calls Try.prog 9 #[.slice a len cap] w fun e w' => e = .returned (.bool true) ∧ Below w.heap.size w w' :=
  lawRoundFinalNotLess_at w w h (Below.refl _ _) (Nat.le_refl _)
end Go.Proofs.Ytccggcdjajehnaa
