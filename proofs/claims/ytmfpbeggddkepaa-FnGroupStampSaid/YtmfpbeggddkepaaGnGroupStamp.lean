/-
  The walk of the law FnGroupStamp: it returns true, and nothing that was there is written. No condition.
-/
import Derived.Test.YtmfpbeggddkepaaGnM
import Derived.Test.YtmfpbeggddkepaaGnP
import Derived.Deep.CutBlock
import Derived.Deep.RegionLaw
import Derived.Deep.RegionHeld3
namespace Go.Proofs.Ytmfpbeggddkepaa
open Go.RowKit
set_option linter.unusedVariables false
set_option linter.unusedSimpArgs false


set_option maxRecDepth 100000 in
set_option maxHeartbeats 16000000 in
theorem lawGroupStamp_at {a : Option Addr} {len cap : Nat} {zs : List Int} (w u0 : World) (h : RowIs .u8 u0 a len cap zs) (hB0 : Below w.heap.size w u0) (z_0 : w.heap.size ≤ u0.heap.size) :
    Calls Try.prog 11 #[.slice a len cap] u0 fun e w' => e = .returned (.bool true) ∧ Below w.heap.size w w' := by
  have hl := h.len_leN
  have B_0 := hid hB0
  have h' := hid h
  clear hB0 h
  by_cases hbig : 1048576 < len
  · go_enter Try.func11, Try.ntmps11
    go_wp2
    go_ret
    exact ⟨rfl, B_0.out⟩
  · go_enter Try.func11, Try.ntmps11
    go_wp2_with fail
    refine (DrawGroupStamp_any _ h'.out).mono ?_
    rintro e u1 ⟨i, k, A0, c0, E0, d0, P, D, msg, rfl, ho, hl, hb⟩
    have hb_1 := hid hb
    have B_1 := hid (B_0.out.trans (hb_1.out.mono (by omega)))
    have z_1 : u0.heap.size ≤ u1.heap.size := hb_1.out.size
    clear  B_0
    clear hb_1
    clear hb
    have hP13 : P.length ≤ 13 := by omega
    have hD13 : D.length ≤ 13 := by omega
    clear hl
    have LG_1 := hid (Lg.of ho)
    clear ho
    go_upto_region 4 with (fail)
    obtain ⟨u2, hu⟩ : ∃ W, (u1.alloc (.cells #[.int .i64 i, .int .i64 k, .slice A0 P.length c0, .slice E0 D.length d0] 25)) = W := ⟨_, rfl⟩
    rw [hu]
    have hb : Below u1.heap.size u1 u2 := by rw [← hu]; exact below1 _ _
    have hcG : Cs u2 (u1.heap.size) 25 #[.int .i64 i, .int .i64 k, .slice A0 P.length c0, .slice E0 D.length d0] := by rw [← hu]; exact Cs.new _ _ _
    clear hu
    have hb_2 := hid hb
    have LG_2 := hid (LG_1.out.step hb_2.out)
    have B_2 := hid (B_1.out.trans (hb_2.out.mono (by omega)))
    have z_2 : u1.heap.size ≤ u2.heap.size := hb_2.out.size
    clear LG_1 B_1
    clear hb_2
    clear hb
    have KG_2 := hid hcG
    have yG_2 : u1.heap.size < u2.heap.size := hcG.lt
    clear hcG
    obtain ⟨em, et, ek, ef, b', hR⟩ : ∃ em et ek ef b', stR ⟨i, k, P, D⟩ msg = ((em, (et, ek), ef), b') := ⟨_, _, _, _, _, rfl⟩
    cases hv : vdB ⟨i, k, P, D⟩ with
    | false =>
      have hv := hid hv
      replace hR := hid hR
      have e1 : (em == em) = true := by simp
      have e2 : (et == et) = true := by simp
      have e3 : (ek == ek) = true := by simp
      have e4 : (ef == ef) = true := by cases ef <;> rfl
      have e5 : (b' == b') = true := by cases b' <;> rfl
      have e6 : (b' != b') = false := by cases b' <;> rfl
      obtain ⟨qG0, qG1, qG2, qG3⟩ := KG_2.out.four
      go_wp2_with fail
      refine (GroupStamp_impl hR.out _ (LG_2.out.ow.rdg (by omega) (by omega))).mono ?_
      rintro e u3 ⟨rfl, hb⟩
      clear qG0 qG1 qG2 qG3
      have hb_3 := hid hb
      have KG_3 := hid (KG_2.out.step hb_3.out)
      have LG_3 := hid (LG_2.out.step hb_3.out)
      have B_3 := hid (B_2.out.trans (hb_3.out.mono (by omega)))
      have z_3 : u2.heap.size ≤ u3.heap.size := hb_3.out.size
      clear KG_2 LG_2 B_2
      clear hb_3
      clear hb
      go_upto_region 5 with (fail)
      obtain ⟨u4, hu⟩ : ∃ W, (u3.alloc (.cells #[.int .i64 em, .int .i64 et, .int .i64 ek, .bool ef] 31)) = W := ⟨_, rfl⟩
      rw [hu]
      have hb : Below u3.heap.size u3 u4 := by rw [← hu]; exact below1 _ _
      have hcu : Cs u4 (u3.heap.size) 31 #[.int .i64 em, .int .i64 et, .int .i64 ek, .bool ef] := by rw [← hu]; exact Cs.new _ _ _
      clear hu
      have hb_4 := hid hb
      have KG_4 := hid (KG_3.out.step hb_4.out)
      have LG_4 := hid (LG_3.out.step hb_4.out)
      have B_4 := hid (B_3.out.trans (hb_4.out.mono (by omega)))
      have z_4 : u3.heap.size ≤ u4.heap.size := hb_4.out.size
      clear KG_3 LG_3 B_3
      clear hb_4
      clear hb
      have Ku_4 := hid hcu
      have yu_4 : u3.heap.size < u4.heap.size := hcu.lt
      clear hcu
      obtain ⟨qG0, qG1, qG2, qG3⟩ := KG_4.out.four
      go_wp2_with fail
      refine (GroupStamp_spec hR.out _ (LG_4.out.ow.rdg (by omega) (by omega))).mono ?_
      rintro e u5 ⟨rfl, hb⟩
      clear qG0 qG1 qG2 qG3
      have hb_5 := hid hb
      have KG_5 := hid (KG_4.out.step hb_5.out)
      have Ku_5 := hid (Ku_4.out.step hb_5.out)
      have LG_5 := hid (LG_4.out.step hb_5.out)
      have B_5 := hid (B_4.out.trans (hb_5.out.mono (by omega)))
      have z_5 : u4.heap.size ≤ u5.heap.size := hb_5.out.size
      clear KG_4 Ku_4 LG_4 B_4
      clear hb_5
      clear hb
      go_upto_region 6 with (fail)
      obtain ⟨u6, hu⟩ : ∃ W, (u5.alloc (.cells #[.int .i64 em, .int .i64 et, .int .i64 ek, .bool ef] 31)) = W := ⟨_, rfl⟩
      rw [hu]
      have hb : Below u5.heap.size u5 u6 := by rw [← hu]; exact below1 _ _
      have hcv : Cs u6 (u5.heap.size) 31 #[.int .i64 em, .int .i64 et, .int .i64 ek, .bool ef] := by rw [← hu]; exact Cs.new _ _ _
      clear hu
      have hb_6 := hid hb
      have KG_6 := hid (KG_5.out.step hb_6.out)
      have Ku_6 := hid (Ku_5.out.step hb_6.out)
      have LG_6 := hid (LG_5.out.step hb_6.out)
      have B_6 := hid (B_5.out.trans (hb_6.out.mono (by omega)))
      have z_6 : u5.heap.size ≤ u6.heap.size := hb_6.out.size
      clear KG_5 Ku_5 LG_5 B_5
      clear hb_6
      clear hb
      have Kv_6 := hid hcv
      have yv_6 : u5.heap.size < u6.heap.size := hcv.lt
      clear hcv
      obtain ⟨qu0, qu1, qu2, qu3⟩ := Ku_6.out.four
      obtain ⟨qv0, qv1, qv2, qv3⟩ := Kv_6.out.four
      obtain ⟨qG0, qG1, qG2, qG3⟩ := KG_6.out.four
      go_wp2_with fail
      refine (GroupValid_spec i k _ (LG_6.out.ow.rdg (by omega) (by omega))).mono ?_
      rw [hv.out]
      rintro e u7 ⟨rfl, hb⟩
      clear qu0 qu1 qu2 qu3 qv0 qv1 qv2 qv3 qG0 qG1 qG2 qG3
      have hb_7 := hid hb
      have KG_7 := hid (KG_6.out.step hb_7.out)
      have Ku_7 := hid (Ku_6.out.step hb_7.out)
      have Kv_7 := hid (Kv_6.out.step hb_7.out)
      have LG_7 := hid (LG_6.out.step hb_7.out)
      have B_7 := hid (B_6.out.trans (hb_7.out.mono (by omega)))
      have z_7 : u6.heap.size ≤ u7.heap.size := hb_7.out.size
      clear KG_6 Ku_6 Kv_6 LG_6 B_6
      clear hb_7
      clear hb
      obtain ⟨qu0, qu1, qu2, qu3⟩ := Ku_7.out.four
      obtain ⟨qv0, qv1, qv2, qv3⟩ := Kv_7.out.four
      go_wp2
      go_ret
      exact ⟨rfl, B_7.out⟩
    | true =>
      have hall := hid (st_all hR hv).1
      have hbb := hid (st_all hR hv).2
      have hv := hid hv
      replace hR := hid hR
      have e1 : (em == em) = true := by simp
      have e2 : (et == et) = true := by simp
      have e3 : (ek == ek) = true := by simp
      have e4 : (ef == ef) = true := by cases ef <;> rfl
      have e5 : (b' == b') = true := by cases b' <;> rfl
      have e6 : (b' != b') = false := by cases b' <;> rfl
      obtain ⟨qG0, qG1, qG2, qG3⟩ := KG_2.out.four
      go_wp2_with fail
      refine (GroupStamp_impl hR.out _ (LG_2.out.ow.rdg (by omega) (by omega))).mono ?_
      rintro e u3 ⟨rfl, hb⟩
      clear qG0 qG1 qG2 qG3
      have hb_3 := hid hb
      have KG_3 := hid (KG_2.out.step hb_3.out)
      have LG_3 := hid (LG_2.out.step hb_3.out)
      have B_3 := hid (B_2.out.trans (hb_3.out.mono (by omega)))
      have z_3 : u2.heap.size ≤ u3.heap.size := hb_3.out.size
      clear KG_2 LG_2 B_2
      clear hb_3
      clear hb
      go_upto_region 5 with (fail)
      obtain ⟨u4, hu⟩ : ∃ W, (u3.alloc (.cells #[.int .i64 em, .int .i64 et, .int .i64 ek, .bool ef] 31)) = W := ⟨_, rfl⟩
      rw [hu]
      have hb : Below u3.heap.size u3 u4 := by rw [← hu]; exact below1 _ _
      have hcu : Cs u4 (u3.heap.size) 31 #[.int .i64 em, .int .i64 et, .int .i64 ek, .bool ef] := by rw [← hu]; exact Cs.new _ _ _
      clear hu
      have hb_4 := hid hb
      have KG_4 := hid (KG_3.out.step hb_4.out)
      have LG_4 := hid (LG_3.out.step hb_4.out)
      have B_4 := hid (B_3.out.trans (hb_4.out.mono (by omega)))
      have z_4 : u3.heap.size ≤ u4.heap.size := hb_4.out.size
      clear KG_3 LG_3 B_3
      clear hb_4
      clear hb
      have Ku_4 := hid hcu
      have yu_4 : u3.heap.size < u4.heap.size := hcu.lt
      clear hcu
      obtain ⟨qG0, qG1, qG2, qG3⟩ := KG_4.out.four
      go_wp2_with fail
      refine (GroupStamp_spec hR.out _ (LG_4.out.ow.rdg (by omega) (by omega))).mono ?_
      rintro e u5 ⟨rfl, hb⟩
      clear qG0 qG1 qG2 qG3
      have hb_5 := hid hb
      have KG_5 := hid (KG_4.out.step hb_5.out)
      have Ku_5 := hid (Ku_4.out.step hb_5.out)
      have LG_5 := hid (LG_4.out.step hb_5.out)
      have B_5 := hid (B_4.out.trans (hb_5.out.mono (by omega)))
      have z_5 : u4.heap.size ≤ u5.heap.size := hb_5.out.size
      clear KG_4 Ku_4 LG_4 B_4
      clear hb_5
      clear hb
      go_upto_region 6 with (fail)
      obtain ⟨u6, hu⟩ : ∃ W, (u5.alloc (.cells #[.int .i64 em, .int .i64 et, .int .i64 ek, .bool ef] 31)) = W := ⟨_, rfl⟩
      rw [hu]
      have hb : Below u5.heap.size u5 u6 := by rw [← hu]; exact below1 _ _
      have hcv : Cs u6 (u5.heap.size) 31 #[.int .i64 em, .int .i64 et, .int .i64 ek, .bool ef] := by rw [← hu]; exact Cs.new _ _ _
      clear hu
      have hb_6 := hid hb
      have KG_6 := hid (KG_5.out.step hb_6.out)
      have Ku_6 := hid (Ku_5.out.step hb_6.out)
      have LG_6 := hid (LG_5.out.step hb_6.out)
      have B_6 := hid (B_5.out.trans (hb_6.out.mono (by omega)))
      have z_6 : u5.heap.size ≤ u6.heap.size := hb_6.out.size
      clear KG_5 Ku_5 LG_5 B_5
      clear hb_6
      clear hb
      have Kv_6 := hid hcv
      have yv_6 : u5.heap.size < u6.heap.size := hcv.lt
      clear hcv
      obtain ⟨qu0, qu1, qu2, qu3⟩ := Ku_6.out.four
      obtain ⟨qv0, qv1, qv2, qv3⟩ := Kv_6.out.four
      obtain ⟨qG0, qG1, qG2, qG3⟩ := KG_6.out.four
      go_wp2_with fail
      refine (GroupValid_spec i k _ (LG_6.out.ow.rdg (by omega) (by omega))).mono ?_
      rw [hv.out]
      rintro e u7 ⟨rfl, hb⟩
      clear qu0 qu1 qu2 qu3 qv0 qv1 qv2 qv3 qG0 qG1 qG2 qG3
      have hb_7 := hid hb
      have KG_7 := hid (KG_6.out.step hb_7.out)
      have Ku_7 := hid (Ku_6.out.step hb_7.out)
      have Kv_7 := hid (Kv_6.out.step hb_7.out)
      have LG_7 := hid (LG_6.out.step hb_7.out)
      have B_7 := hid (B_6.out.trans (hb_7.out.mono (by omega)))
      have z_7 : u6.heap.size ≤ u7.heap.size := hb_7.out.size
      clear KG_6 Ku_6 Kv_6 LG_6 B_6
      clear hb_7
      clear hb
      go_wp2_with fail
      go_loopw [9, 10] (fun f v wr => ∃ j : Nat, j ≤ P.length ∧ v = .int .i64 j ∧ f = .bool (hasM (P.take j) msg) ∧ Hid (Below u7.heap.size u7 wr)) (fun _ v _ => P.length - (intOf v).toNat)
      case atStart => exact ⟨0, by omega, rfl, by simp [hasM], hid (Below.refl _ _)⟩
      case round =>
        obtain ⟨j, hj, rfl, rfl, hB⟩ := hrel
        have hsz := hB.out.size
        have KG_r := hid (KG_7.out.step hB.out)
        have Ku_r := hid (Ku_7.out.step hB.out)
        have Kv_r := hid (Kv_7.out.step hB.out)
        have LG_r := hid (LG_7.out.step hB.out)
        obtain ⟨y0, y1, y2, y3⟩ := KG_r.out.four
        obtain ⟨s0, s1, s2, s3⟩ := Ku_r.out.four
        by_cases hlt : j < P.length
        · obtain ⟨b, off, m, t, g, f, rfl, hx, hb, v0, v1, v2, v3⟩ := LG_r.out.r1.at_ hlt
          have i0 : (0 : Int) ≤ (j : Int) := by omega
          have i1 : (j : Int) < (P.length : Int) := by omega
          have htk : hasM (P.take (j + 1)) msg = (hasM (P.take j) msg || (m == msg)) := hasM_snoc hx.out msg
          have hmem := List.mem_of_getElem? hx.out
          have G3 : ∀ x : BW wr, x.wd.cell? ⟨u1.heap.size, 2, none⟩ = some (.slice (some ⟨b, off, none⟩) P.length c0) := fun x => x.cell y2
          have S0 : ∀ x : BW wr, x.wd.cell? ⟨u3.heap.size, 0, none⟩ = some (.int .i64 em) := fun x => x.cell s0
          have S1 : ∀ x : BW wr, x.wd.cell? ⟨u3.heap.size, 1, none⟩ = some (.int .i64 et) := fun x => x.cell s1
          have S2 : ∀ x : BW wr, x.wd.cell? ⟨u3.heap.size, 2, none⟩ = some (.int .i64 ek) := fun x => x.cell s2
          have S3 : ∀ x : BW wr, x.wd.cell? ⟨u3.heap.size, 3, none⟩ = some (.bool ef) := fun x => x.cell s3
          have C0 : ∀ x : BW wr, x.wd.cell? ⟨b, off + j * 4, none⟩ = some (.int .i64 m) := fun x => x.cell v0
          have C1 : ∀ x : BW wr, x.wd.cell? ⟨b, off + j * 4 + 1, none⟩ = some (.int .i64 t) := fun x => x.cell v1
          have C2 : ∀ x : BW wr, x.wd.cell? ⟨b, off + j * 4 + 2, none⟩ = some (.int .i64 g) := fun x => x.cell v2
          have C3 : ∀ x : BW wr, x.wd.cell? ⟨b, off + j * 4 + 3, none⟩ = some (.bool f) := fun x => x.cell v3
          clear v0 v1 v2 v3 hx
          obtain ⟨fd, hfd⟩ : ∃ fd, (hasM (P.take j) msg) = fd := ⟨_, rfl⟩
          rw [hfd]
          have hnx : (hasM (P.take (j + 1)) msg) = (fd || (m == msg)) := by rw [htk, ← hfd] <;> simp [Bool.or_assoc]
          replace hnx := hid hnx
          clear hfd htk
          cases fd with
          | true =>
            go_wp2_with fail
            clear y0 y1 y2 y3 s0 s1 s2 s3
            refine wp_region_below (by kernel_rfl) (by kernel_rfl) ?_
            repeat (go_big_quiet_step (fail))
            refine wpQuiet_nil ?_
            intro w1 hb1
            have B5 := hid (hB.out.trans (hb1.mono hsz))
            clear hb1
            go_wp2
            go_roundw
            case rel => exact ⟨j + 1, by omega, by go_num, by rw [hnx.out]; rfl, B5⟩
            case measure => simp [intOf]; omega
          | false =>
            by_cases hmm : m = msg
            · have he := hall.out _ (.inl hmem) hmm
              simp only [Prod.mk.injEq] at he
              obtain ⟨g1, ⟨g2, g3⟩, g4⟩ := he
              subst g1 g2 g3 g4
              have e9 : (m == msg) = true := by simp [hmm]
              replace hmm := hid hmm
              clear hmem
              go_wp2_with fail
              clear y0 y1 y2 y3 s0 s1 s2 s3
              refine wp_region_below (by kernel_rfl) (by kernel_rfl) ?_
              repeat (go_big_quiet_step (fail))
              refine wpQuiet_nil ?_
              intro w1 hb1
              have B5 := hid (hB.out.trans (hb1.mono hsz))
              clear hb1
              go_wp2
              go_roundw
              case rel => exact ⟨j + 1, by omega, by go_num, by rw [hnx.out]; rw [e9]; rfl, B5⟩
              case measure => simp [intOf]; omega
            · have e9 : (m == msg) = false := by simp [hmm]
              clear hmem hmm
              go_wp2_with fail
              clear y0 y1 y2 y3 s0 s1 s2 s3
              refine wp_region_below (by kernel_rfl) (by kernel_rfl) ?_
              repeat (go_big_quiet_step (fail))
              refine wpQuiet_nil ?_
              intro w1 hb1
              have B5 := hid (hB.out.trans (hb1.mono hsz))
              clear hb1
              go_wp2
              go_roundw
              case rel => exact ⟨j + 1, by omega, by go_num, by rw [hnx.out]; rw [e9]; rfl, B5⟩
              case measure => simp [intOf]; omega
        · have hje : j = P.length := by omega
          subst hje
          rw [List.take_length]
          obtain ⟨u8, rfl⟩ : ∃ W, W = wr := ⟨_, rfl⟩
          have B_8 := hid (B_7.out.trans (hB.out.mono (by omega)))
          have z_8 : u7.heap.size ≤ u8.heap.size := hsz
          clear y0 y1 y2 y3 s0 s1 s2 s3
          have KG_8 := KG_r
          clear KG_7 KG_r
          have Ku_8 := Ku_r
          clear Ku_7 Ku_r
          have Kv_8 := Kv_r
          clear Kv_7 Kv_r
          have LG_8 := LG_r
          clear LG_7 LG_r
          clear B_7 hB
          obtain ⟨qG0, qG1, qG2, qG3⟩ := KG_8.out.four
          clear qG0 qG1 qG2 qG3
          obtain ⟨qG0, qG1, qG2, qG3⟩ := KG_8.out.four
          go_wp2_with fail
          go_loopw [9, 11] (fun f v wr => ∃ j : Nat, j ≤ D.length ∧ v = .int .i64 j ∧ f = .bool (hasM P msg || hasM (D.take j) msg) ∧ Hid (Below u8.heap.size u8 wr)) (fun _ v _ => D.length - (intOf v).toNat)
          case atStart => exact ⟨0, by omega, rfl, by simp [hasM], hid (Below.refl _ _)⟩
          case round =>
            obtain ⟨j, hj, rfl, rfl, hB⟩ := hrel
            have hsz := hB.out.size
            have KG_r := hid (KG_8.out.step hB.out)
            have Ku_r := hid (Ku_8.out.step hB.out)
            have Kv_r := hid (Kv_8.out.step hB.out)
            have LG_r := hid (LG_8.out.step hB.out)
            obtain ⟨y0, y1, y2, y3⟩ := KG_r.out.four
            obtain ⟨s0, s1, s2, s3⟩ := Ku_r.out.four
            by_cases hlt : j < D.length
            · obtain ⟨b, off, m, t, g, f, rfl, hx, hb, v0, v1, v2, v3⟩ := LG_r.out.r2.at_ hlt
              have i0 : (0 : Int) ≤ (j : Int) := by omega
              have i1 : (j : Int) < (D.length : Int) := by omega
              have htk : hasM (D.take (j + 1)) msg = (hasM (D.take j) msg || (m == msg)) := hasM_snoc hx.out msg
              have hmem := List.mem_of_getElem? hx.out
              have G3 : ∀ x : BW wr, x.wd.cell? ⟨u1.heap.size, 3, none⟩ = some (.slice (some ⟨b, off, none⟩) D.length d0) := fun x => x.cell y3
              have S0 : ∀ x : BW wr, x.wd.cell? ⟨u3.heap.size, 0, none⟩ = some (.int .i64 em) := fun x => x.cell s0
              have S1 : ∀ x : BW wr, x.wd.cell? ⟨u3.heap.size, 1, none⟩ = some (.int .i64 et) := fun x => x.cell s1
              have S2 : ∀ x : BW wr, x.wd.cell? ⟨u3.heap.size, 2, none⟩ = some (.int .i64 ek) := fun x => x.cell s2
              have S3 : ∀ x : BW wr, x.wd.cell? ⟨u3.heap.size, 3, none⟩ = some (.bool ef) := fun x => x.cell s3
              have C0 : ∀ x : BW wr, x.wd.cell? ⟨b, off + j * 4, none⟩ = some (.int .i64 m) := fun x => x.cell v0
              have C1 : ∀ x : BW wr, x.wd.cell? ⟨b, off + j * 4 + 1, none⟩ = some (.int .i64 t) := fun x => x.cell v1
              have C2 : ∀ x : BW wr, x.wd.cell? ⟨b, off + j * 4 + 2, none⟩ = some (.int .i64 g) := fun x => x.cell v2
              have C3 : ∀ x : BW wr, x.wd.cell? ⟨b, off + j * 4 + 3, none⟩ = some (.bool f) := fun x => x.cell v3
              clear v0 v1 v2 v3 hx
              obtain ⟨fd, hfd⟩ : ∃ fd, (hasM P msg || hasM (D.take j) msg) = fd := ⟨_, rfl⟩
              rw [hfd]
              have hnx : (hasM P msg || hasM (D.take (j + 1)) msg) = (fd || (m == msg)) := by rw [htk, ← hfd] <;> simp [Bool.or_assoc]
              replace hnx := hid hnx
              clear hfd htk
              cases fd with
              | true =>
                go_wp2_with fail
                clear y0 y1 y2 y3 s0 s1 s2 s3
                refine wp_region_below (by kernel_rfl) (by kernel_rfl) ?_
                repeat (go_big_quiet_step (fail))
                refine wpQuiet_nil ?_
                intro w1 hb1
                have B5 := hid (hB.out.trans (hb1.mono hsz))
                clear hb1
                go_wp2
                go_roundw
                case rel => exact ⟨j + 1, by omega, by go_num, by rw [hnx.out]; rfl, B5⟩
                case measure => simp [intOf]; omega
              | false =>
                by_cases hmm : m = msg
                · have he := hall.out _ (.inr hmem) hmm
                  simp only [Prod.mk.injEq] at he
                  obtain ⟨g1, ⟨g2, g3⟩, g4⟩ := he
                  subst g1 g2 g3 g4
                  have e9 : (m == msg) = true := by simp [hmm]
                  replace hmm := hid hmm
                  clear hmem
                  go_wp2_with fail
                  clear y0 y1 y2 y3 s0 s1 s2 s3
                  refine wp_region_below (by kernel_rfl) (by kernel_rfl) ?_
                  repeat (go_big_quiet_step (fail))
                  refine wpQuiet_nil ?_
                  intro w1 hb1
                  have B5 := hid (hB.out.trans (hb1.mono hsz))
                  clear hb1
                  go_wp2
                  go_roundw
                  case rel => exact ⟨j + 1, by omega, by go_num, by rw [hnx.out]; rw [e9]; rfl, B5⟩
                  case measure => simp [intOf]; omega
                · have e9 : (m == msg) = false := by simp [hmm]
                  clear hmem hmm
                  go_wp2_with fail
                  clear y0 y1 y2 y3 s0 s1 s2 s3
                  refine wp_region_below (by kernel_rfl) (by kernel_rfl) ?_
                  repeat (go_big_quiet_step (fail))
                  refine wpQuiet_nil ?_
                  intro w1 hb1
                  have B5 := hid (hB.out.trans (hb1.mono hsz))
                  clear hb1
                  go_wp2
                  go_roundw
                  case rel => exact ⟨j + 1, by omega, by go_num, by rw [hnx.out]; rw [e9]; rfl, B5⟩
                  case measure => simp [intOf]; omega
            · have hje : j = D.length := by omega
              subst hje
              rw [List.take_length]
              obtain ⟨u9, rfl⟩ : ∃ W, W = wr := ⟨_, rfl⟩
              have B_9 := hid (B_8.out.trans (hB.out.mono (by omega)))
              have z_9 : u8.heap.size ≤ u9.heap.size := hsz
              clear y0 y1 y2 y3 s0 s1 s2 s3
              have KG_9 := KG_r
              clear KG_8 KG_r
              have Ku_9 := Ku_r
              clear Ku_8 Ku_r
              have Kv_9 := Kv_r
              clear Kv_8 Kv_r
              have LG_9 := LG_r
              clear LG_8 LG_r
              clear B_8 hB
              obtain ⟨qG0, qG1, qG2, qG3⟩ := KG_9.out.four
              have e9 : (b' == (hasM P msg || hasM D msg)) = true := by rw [hbb.out]; simp
              go_wp2
              go_ret
              exact ⟨rfl, B_9.out⟩

theorem lawGroupStamp {a : Option Addr} {len cap : Nat} {zs : List Int} (w : World) (h : RowIs .u8 w a len cap zs) :
    Calls Try.prog 11 #[.slice a len cap] w fun e w' => e = .returned (.bool true) ∧ Below w.heap.size w w' :=
  lawGroupStamp_at w w h (Below.refl _ _) (Nat.le_refl _)
end Go.Proofs.Ytmfpbeggddkepaa
