/-
  The walk of the law FnRoundMissing: it returns true, and nothing that was there is written. No condition.
-/
import Derived.Test.YtccggcdjajehnaaRmY
import Derived.Test.YtccggcdjajehnaaRyM
import Derived.Test.YtccggcdjajehnaaRmJ
import Derived.Test.YtccggcdjajehnaaRmG
import Derived.Deep.CutBlock
import Derived.Deep.RegionLaw
import Derived.Deep.RegionHeld3
import Derived.Deep.DeepCutAuto
namespace Go.Proofs.Ytccggcdjajehnaa
open Go.RowKit
set_option linter.unusedVariables false
set_option linter.unusedSimpArgs false



set_option maxRecDepth 100000 in
set_option maxHeartbeats 16000000 in
theorem lawRoundMissing_at {a : Option Addr} {len cap : Nat} {zs : List Int} (w u0 : World) (h : RowIs .u8 u0 a len cap zs) (hB0 : Below w.heap.size w u0) (z_0 : w.heap.size ≤ u0.heap.size) :
    Calls Try.prog 7 #[.slice a len cap] u0 fun e w' => e = .returned (.bool true) ∧ Below w.heap.size w w' := by
  have hl := h.len_leR
  have B_0 := hid hB0
  have h' := hid h
  clear hB0 h
  by_cases hbig : 1048576 < len
  · go_enter Try.func7, Try.ntmps7
    go_wp2
    go_ret
    exact ⟨rfl, B_0.out⟩
  · go_enter Try.func7, Try.ntmps7
    go_wp2_with fail
    refine (DrawRoundMissing_any _ h'.out).mono ?_
    rintro e u1 ⟨m, A1, c1, A2, c2, gs, xs, rfl, o1, ⟨hl1, hl2⟩, hb⟩
    have hb_1 := hid hb
    have B_1 := hid (B_0.out.trans (hb_1.out.mono (by omega)))
    have z_1 : u0.heap.size ≤ u1.heap.size := hb_1.out.size
    clear  B_0
    clear hb_1
    clear hb
    have Lr_1 := hid (Lr.of o1)
    clear o1
    go_upto_region 4 with (fail)
    obtain ⟨u2, hu⟩ : ∃ W, (u1.alloc (.cells #[.int .i64 m, .slice A1 gs.length c1, .slice A2 xs.length c2] 28)) = W := ⟨_, rfl⟩
    rw [hu]
    have hb : Below u1.heap.size u1 u2 := by rw [← hu]; exact below1 _ _
    have hcr : Cs u2 (u1.heap.size) 28 #[.int .i64 m, .slice A1 gs.length c1, .slice A2 xs.length c2] := by rw [← hu]; exact Cs.new _ _ _
    clear hu
    have hb_2 := hid hb
    have Lr_2 := hid (Lr_1.out.step hb_2.out)
    have B_2 := hid (B_1.out.trans (hb_2.out.mono (by omega)))
    have z_2 : u1.heap.size ≤ u2.heap.size := hb_2.out.size
    clear Lr_1 B_1
    clear hb_2
    clear hb
    have Kr_2 := hid hcr
    have yr_2 : u1.heap.size < u2.heap.size := hcr.lt
    clear hcr
    obtain ⟨M, hM⟩ : ∃ M, misR m gs xs = M := ⟨_, rfl⟩
    have hml := misR_len hM
    replace hM := hid hM
    obtain ⟨qr0, qr1, qr2⟩ := Kr_2.out.three
    go_wp2_with fail
    refine (RoundMissing_impl hM.out _ (Lr_2.out.ow.rd (by omega) (by omega))).mono ?_
    rintro e u3 ⟨Ao, co, rfl, oo, hb⟩
    clear qr0 qr1 qr2
    have hb_3 := hid hb
    have Kr_3 := hid (Kr_2.out.step hb_3.out)
    have Lr_3 := hid (Lr_2.out.step hb_3.out)
    have B_3 := hid (B_2.out.trans (hb_3.out.mono (by omega)))
    have z_3 : u2.heap.size ≤ u3.heap.size := hb_3.out.size
    clear Kr_2 Lr_2 B_2
    clear hb_3
    clear hb
    have No_3 := hid (Lv.ofI oo)
    clear oo
    obtain ⟨qr0, qr1, qr2⟩ := Kr_3.out.three
    go_wp2_with fail
    refine (RoundMissing_spec hM.out _ (Lr_3.out.ow.rd (by omega) (by omega))).mono ?_
    rintro e u4 ⟨Aw, cw, rfl, ow, hb⟩
    clear qr0 qr1 qr2
    have hb_4 := hid hb
    have Kr_4 := hid (Kr_3.out.step hb_4.out)
    have Lr_4 := hid (Lr_3.out.step hb_4.out)
    have No_4 := hid (No_3.out.step hb_4.out)
    have B_4 := hid (B_3.out.trans (hb_4.out.mono (by omega)))
    have z_4 : u3.heap.size ≤ u4.heap.size := hb_4.out.size
    clear Kr_3 Lr_3 No_3 B_3
    clear hb_4
    clear hb
    have Nw_4 := hid (Lv.ofI ow)
    clear ow
    cases hv : rvB m gs xs with
    | false =>
      replace hv := hid hv
      go_wp2_with fail
      refine (sameInts_any _ No_4.out.at_ Nw_4.out.at_ (by omega) (by omega)).mono ?_
      rw [sameB_selfR]
      rintro e u5 ⟨rfl, hq⟩
      have hb_5 := hid (hq.below u4.heap.size)
      have Kr_5 := hid (Kr_4.out.step hb_5.out)
      have Lr_5 := hid (Lr_4.out.step hb_5.out)
      have No_5 := hid (No_4.out.step hb_5.out)
      have Nw_5 := hid (Nw_4.out.step hb_5.out)
      have B_5 := hid (B_4.out.trans (hb_5.out.mono (by omega)))
      have z_5 : u4.heap.size ≤ u5.heap.size := hb_5.out.size
      clear Kr_4 Lr_4 No_4 Nw_4 B_4
      clear hb_5
      clear hq
      obtain ⟨qr0, qr1, qr2⟩ := Kr_5.out.three
      go_wp2_with fail
      refine (RoundValid_spec hv.out _ (Lr_5.out.ow.rd (by omega) (by omega))).mono ?_
      rintro e u6 ⟨rfl, hb⟩
      clear qr0 qr1 qr2
      have hb_6 := hid hb
      have Kr_6 := hid (Kr_5.out.step hb_6.out)
      have Lr_6 := hid (Lr_5.out.step hb_6.out)
      have No_6 := hid (No_5.out.step hb_6.out)
      have Nw_6 := hid (Nw_5.out.step hb_6.out)
      have B_6 := hid (B_5.out.trans (hb_6.out.mono (by omega)))
      have z_6 : u5.heap.size ≤ u6.heap.size := hb_6.out.size
      clear Kr_5 Lr_5 No_5 Nw_5 B_5
      clear hb_6
      clear hb
      go_wp2_with fail
      refine (sameInts_any _ No_6.out.at_ Nw_6.out.at_ (by omega) (by omega)).mono ?_
      rw [sameB_selfR]
      rintro e u7 ⟨rfl, hq⟩
      have hb_7 := hid (hq.below u6.heap.size)
      have Kr_7 := hid (Kr_6.out.step hb_7.out)
      have Lr_7 := hid (Lr_6.out.step hb_7.out)
      have No_7 := hid (No_6.out.step hb_7.out)
      have Nw_7 := hid (Nw_6.out.step hb_7.out)
      have B_7 := hid (B_6.out.trans (hb_7.out.mono (by omega)))
      have z_7 : u6.heap.size ≤ u7.heap.size := hb_7.out.size
      clear Kr_6 Lr_6 No_6 Nw_6 B_6
      clear hb_7
      clear hq
      go_wp2
      go_ret
      exact ⟨rfl, B_7.out⟩
    | true =>
      have hsum := mis_sumM hv hM.out
      replace hv := hid hv
      go_wp2_with fail
      refine (sameInts_any _ No_4.out.at_ Nw_4.out.at_ (by omega) (by omega)).mono ?_
      rw [sameB_selfR]
      rintro e u5 ⟨rfl, hq⟩
      have hb_5 := hid (hq.below u4.heap.size)
      have Kr_5 := hid (Kr_4.out.step hb_5.out)
      have Lr_5 := hid (Lr_4.out.step hb_5.out)
      have No_5 := hid (No_4.out.step hb_5.out)
      have Nw_5 := hid (Nw_4.out.step hb_5.out)
      have B_5 := hid (B_4.out.trans (hb_5.out.mono (by omega)))
      have z_5 : u4.heap.size ≤ u5.heap.size := hb_5.out.size
      clear Kr_4 Lr_4 No_4 Nw_4 B_4
      clear hb_5
      clear hq
      clear Nw_5
      obtain ⟨qr0, qr1, qr2⟩ := Kr_5.out.three
      go_wp2_with fail
      refine (RoundValid_spec hv.out _ (Lr_5.out.ow.rd (by omega) (by omega))).mono ?_
      rintro e u6 ⟨rfl, hb⟩
      clear qr0 qr1 qr2
      have hb_6 := hid hb
      have Kr_6 := hid (Kr_5.out.step hb_6.out)
      have Lr_6 := hid (Lr_5.out.step hb_6.out)
      have No_6 := hid (No_5.out.step hb_6.out)
      have B_6 := hid (B_5.out.trans (hb_6.out.mono (by omega)))
      have z_6 : u5.heap.size ≤ u6.heap.size := hb_6.out.size
      clear Kr_5 Lr_5 No_5 B_5
      clear hb_6
      clear hb
      replace hsum := hid hsum
      go_wp2_with fail
      go_loopw [6] (fun v wr => ∃ k : Nat, k ≤ gs.length ∧ v = .int .i64 k ∧ Hid (Below u6.heap.size u6 wr)) (fun v _ => gs.length - (intOf v).toNat)
      case atStart => exact ⟨0, by omega, rfl, hid (Below.refl _ _)⟩
      case round =>
        obtain ⟨k, hk, rfl, hB⟩ := hrel
        have hsz := hB.out.size
        have Kr_r := hid (Kr_6.out.step hB.out)
        have Lr_r := hid (Lr_6.out.step hB.out)
        have No_r := hid (No_6.out.step hB.out)
        obtain ⟨y0, y1, y2⟩ := Kr_r.out.three
        by_cases hlt : k < gs.length
        · obtain ⟨ad, z, rfl, hz, hc⟩ := RdI.at' Lr_r.out.r1 hlt
          have i0 : (0 : Int) ≤ (k : Int) := by omega
          have i1 : (k : Int) < (gs.length : Int) := by omega
          have hzg := hid (show z ∈ gs by rw [← hz.out]; simp [hlt])
          have hcH := hid hc
          clear hc hz
          obtain ⟨wo, rfl⟩ : ∃ wo, wo = wr := ⟨_, rfl⟩
          go_upto_block 2 with (fail)
          go_cut [7] (fun f wx => f = .bool (hasB (gOf xs) z) ∧ Hid (Below wo.heap.size wo wx))
          case first =>
            go_wp2_with fail
            go_loopw [7, 8] (fun f i wr => ∃ j : Nat, j ≤ xs.length ∧ i = .int .i64 j ∧ f = .bool (hasB (gOf (xs.take j)) z) ∧ Hid (Below wo.heap.size wo wr)) (fun _ i _ => xs.length - (intOf i).toNat)
            case atStart => exact ⟨0, by omega, rfl, rfl, hid (Below.refl _ _)⟩
            case round =>
              obtain ⟨j, hj, rfl, rfl, hD⟩ := hrel
              clear y0 y1 y2
              obtain ⟨s0, s1, s2⟩ := (Kr_r.out.step hD.out).three
              by_cases hjl : j < xs.length
              · obtain ⟨b, off, t, g, rfl, hx, hbb, v0, v1⟩ := (Lr_r.out.step hD.out).r2.at_ hjl
                have hcz := hid ((hD.out.cell (World.block_lt_of_cell? wo _ hcH.out)).trans hcH.out)
                have j0 : (0 : Int) ≤ (j : Int) := by omega
                have j1 : (j : Int) < (xs.length : Int) := by omega
                have X1 : ∀ x : BW wr, x.wd.cell? ⟨u1.heap.size, 1, none⟩ = some (.slice (some ad) gs.length c1) := fun x => x.cell s1
                have X2 : ∀ x : BW wr, x.wd.cell? ⟨u1.heap.size, 2, none⟩ = some (.slice (some ⟨b, off, none⟩) xs.length c2) := fun x => x.cell s2
                have C1 : ∀ x : BW wr, x.wd.cell? ⟨b, off + j * 2 + 1, none⟩ = some (.int .i64 g) := fun x => x.cell v1
                have CZ : ∀ x : BW wr, x.wd.cell? (ad.add k) = some (.int .i64 z) := fun x => x.cellA hcz.out
                have hst := gOf_step (z := z) hx.out
                clear v0 v1 hx
                cases hf : hasB (gOf (xs.take j)) z with
                | true =>
                  have hst := hid (show hasB (gOf (xs.take (j + 1))) z = true by rw [hst, hf]; rfl)
                  clear hf
                  go_wp2_with fail
                  clear s0 s1 s2
                  refine wp_region_below (by kernel_rfl) (by kernel_rfl) ?_
                  repeat (go_big_quiet_step (fail))
                  refine wpQuiet_nil ?_
                  intro w1 hb1
                  have hD1 := hid (hD.out.trans (hb1.mono hD.out.size))
                  clear hb1
                  go_wp2
                  go_roundw
                  case rel => exact ⟨j + 1, by omega, by go_num, by rw [hst.out], hD1⟩
                  case measure => simp [intOf]; omega
                | false =>
                  by_cases hgz : g = z
                  · have hst := hid (show hasB (gOf (xs.take (j + 1))) z = true by rw [hst, hf]; simp [hgz])
                    have hge : (g == z) = true := by simp [hgz]
                    clear hf hgz
                    go_wp2_with fail
                    clear s0 s1 s2
                    refine wp_region_below (by kernel_rfl) (by kernel_rfl) ?_
                    repeat (go_big_quiet_step (fail))
                    refine wpQuiet_nil ?_
                    intro w1 hb1
                    have hD1 := hid (hD.out.trans (hb1.mono hD.out.size))
                    clear hb1
                    go_wp2
                    go_roundw
                    case rel => exact ⟨j + 1, by omega, by go_num, by rw [hst.out], hD1⟩
                    case measure => simp [intOf]; omega
                  · have hst := hid (show hasB (gOf (xs.take (j + 1))) z = false by rw [hst, hf]; simp [hgz])
                    have hge : (g == z) = false := by simp [hgz]
                    clear hf hgz
                    go_wp2_with fail
                    clear s0 s1 s2
                    refine wp_region_below (by kernel_rfl) (by kernel_rfl) ?_
                    repeat (go_big_quiet_step (fail))
                    refine wpQuiet_nil ?_
                    intro w1 hb1
                    have hD1 := hid (hD.out.trans (hb1.mono hD.out.size))
                    clear hb1
                    go_wp2
                    go_roundw
                    case rel => exact ⟨j + 1, by omega, by go_num, by rw [hst.out], hD1⟩
                    case measure => simp [intOf]; omega
              · have hfin : Hid (hasB (gOf (xs.take j)) z = hasB (gOf xs) z) := hid (by rw [List.take_of_length_le (by omega)])
                go_wp2
                go_meet
                exact ⟨by rw [hfin.out], hD⟩
          case rest =>
            obtain ⟨rfl, hD⟩ := hcut
            have hcz := (hD.out.cell (World.block_lt_of_cell? wo _ hcH.out)).trans hcH.out
            have No_c := hid (No_r.out.step hD.out)
            have Kr_c := hid (Kr_r.out.step hD.out)
            have hBc := hid (hB.out.trans (hD.out.mono hsz))
            have hpl := mis_placeM hv.out hM.out hzg.out
            clear y0 y1 y2
            obtain ⟨y0, y1, y2⟩ := Kr_c.out.three
            cases hf : hasB (gOf xs) z with
            | true =>
              rw [hf] at hpl
              have hpl := hid hpl
              clear hf
              go_wp2_with fail
              refine (hasInt_any z _ No_c.out.at_ (by omega)).mono ?_
              rw [hpl.out]
              rintro e w9 ⟨rfl, rfl⟩
              go_wp2
              go_roundw
              case rel => exact ⟨k + 1, by omega, by go_num, hBc⟩
              case measure => simp [intOf]; omega
            | false =>
              rw [hf] at hpl
              have hpl := hid hpl
              clear hf
              go_wp2_with fail
              refine (hasInt_any z _ No_c.out.at_ (by omega)).mono ?_
              rw [hpl.out]
              rintro e w9 ⟨rfl, rfl⟩
              go_wp2
              go_roundw
              case rel => exact ⟨k + 1, by omega, by go_num, hBc⟩
              case measure => simp [intOf]; omega
        · have hke : k = gs.length := by omega
          have e9 : ((M.length : Int) + (xs.length : Int) == (gs.length : Int)) = true := by have := hsum.out; simp; omega
          have e8 : (M.length : Int) + (xs.length : Int) = (gs.length : Int) := by have := hsum.out; omega
          go_wp2
          go_ret
          exact ⟨rfl, B_6.out.trans (hB.out.mono (by omega))⟩

theorem lawRoundMissing {a : Option Addr} {len cap : Nat} {zs : List Int} (w : World) (h : RowIs .u8 w a len cap zs) :
    Calls Try.prog 7 #[.slice a len cap] w fun e w' => e = .returned (.bool true) ∧ Below w.heap.size w w' :=
  lawRoundMissing_at w w h (Below.refl _ _) (Nat.le_refl _)
end Go.Proofs.Ytccggcdjajehnaa
