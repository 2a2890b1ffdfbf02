/-
  The walk of the law FnProposeTrace: it returns true, and nothing that was there is written. No condition.
-/
import Derived.Test.YtbnmeedmeikepaaGnM
import Derived.Deep.CutBlock
import Derived.Deep.RegionLaw
import Derived.Deep.RegionHeld3
namespace Go.Proofs.Ytbnmeedmeikepaa
open Go.RowKit
set_option linter.unusedVariables false
set_option linter.unusedSimpArgs false


theorem pr_kept {g g' : Gp} {m : Int} {s : St} (h : prR g m = (g', s, true)) : (∀ e ∈ g.P, stR g' e.1 = (e, true)) ∧ g'.D = g.D := by
  obtain ⟨hv, hm, ⟨e, he, e1, e2, e3, hs, rfl⟩ | ⟨hs, hP, hD, rfl, rfl, hv'⟩⟩ := pr_true h
  · exact ⟨fun e he => by unfold stR; rw [if_pos (vdB_true.2 hv)]; exact stA_P hv he, rfl⟩
  · exact ⟨fun e he => by unfold stR; rw [if_pos (vdB_true.2 hv')]; exact stA_P hv' (List.mem_append_left _ he), rfl⟩


set_option maxRecDepth 100000 in
set_option maxHeartbeats 16000000 in
theorem lawProposeTrace_at {a : Option Addr} {len cap : Nat} {zs : List Int} (w u0 : World) (h : RowIs .u8 u0 a len cap zs) (hB0 : Below w.heap.size w u0) (z_0 : w.heap.size ≤ u0.heap.size) :
    Calls Try.prog 3 #[.slice a len cap] u0 fun e w' => e = .returned (.bool true) ∧ Below w.heap.size w w' := by
  have hl := h.len_leN
  have B_0 := hid hB0
  have h' := hid h
  clear hB0 h
  by_cases hbig : 1048576 < len
  · go_enter Try.func3, Try.ntmps3
    go_wp2
    go_ret
    exact ⟨rfl, B_0.out⟩
  · go_enter Try.func3, Try.ntmps3
    go_wp2_with fail
    refine (DrawGroupPropose_any _ h'.out).mono ?_
    rintro e u1 ⟨i, k, A0, c0, E0, d0, P, D, msg, rfl, ho, hl, hb⟩
    have hb_1 := hid hb
    have B_1 := hid (B_0.out.trans (hb_1.out.mono (by omega)))
    have z_1 : u0.heap.size ≤ u1.heap.size := hb_1.out.size
    clear  B_0
    clear hb_1
    clear hb
    have hP13 : P.length ≤ 13 := by omega
    have hD13 : D.length ≤ 13 := by omega
    clear hl
    have LG_1 := hid (Lg.of ho)
    clear ho
    go_upto_region 4 with (fail)
    obtain ⟨u2, hu⟩ : ∃ W, (u1.alloc (.cells #[.int .i64 i, .int .i64 k, .slice A0 P.length c0, .slice E0 D.length d0] 25)) = W := ⟨_, rfl⟩
    rw [hu]
    have hb : Below u1.heap.size u1 u2 := by rw [← hu]; exact below1 _ _
    have hcG : Cs u2 (u1.heap.size) 25 #[.int .i64 i, .int .i64 k, .slice A0 P.length c0, .slice E0 D.length d0] := by rw [← hu]; exact Cs.new _ _ _
    clear hu
    have hb_2 := hid hb
    have LG_2 := hid (LG_1.out.step hb_2.out)
    have B_2 := hid (B_1.out.trans (hb_2.out.mono (by omega)))
    have z_2 : u1.heap.size ≤ u2.heap.size := hb_2.out.size
    clear LG_1 B_1
    clear hb_2
    clear hb
    have KG_2 := hid hcG
    have yG_2 : u1.heap.size < u2.heap.size := hcG.lt
    clear hcG
    obtain ⟨id', ck', P', D', t', k', b', hR⟩ : ∃ id' ck' P' D' t' k' b', prR ⟨i, k, P, D⟩ msg = (⟨id', ck', P', D'⟩, (t', k'), b') := ⟨_, _, _, _, _, _, _, rfl⟩
    have hPl : P'.length ≤ P.length + 1 := (prR_lenN hR).1
    have hDl : D'.length ≤ D.length := (prR_lenN hR).2
    replace hR := hid hR
    obtain ⟨qG0, qG1, qG2, qG3⟩ := KG_2.out.four
    go_wp2_with fail
    refine (GroupPropose_impl hR.out _ (LG_2.out.ow.rdg (by omega) (by omega)) (by omega)).mono ?_
    rintro e u3 ⟨Ag, cg, Bg, dg, rfl, og, hb⟩
    clear qG0 qG1 qG2 qG3
    have hb_3 := hid hb
    have KG_3 := hid (KG_2.out.step hb_3.out)
    have LG_3 := hid (LG_2.out.step hb_3.out)
    have B_3 := hid (B_2.out.trans (hb_3.out.mono (by omega)))
    have z_3 : u2.heap.size ≤ u3.heap.size := hb_3.out.size
    clear KG_2 LG_2 B_2
    clear hb_3
    clear hb
    have Lo_3 := hid (Lg.of og)
    clear og
    go_upto_region 5 with (fail)
    obtain ⟨u4, hu⟩ : ∃ W, ((u3.alloc (.cells #[.int .i64 id', .int .i64 ck', .slice Ag P'.length cg, .slice Bg D'.length dg] 25)).alloc (.cells #[.int .i64 t', .int .i64 k'] 29)) = W := ⟨_, rfl⟩
    rw [hu]
    have hb : Below u3.heap.size u3 u4 := by rw [← hu]; exact below2 _ _ _
    have hco : Cs u4 (u3.heap.size) 25 #[.int .i64 id', .int .i64 ck', .slice Ag P'.length cg, .slice Bg D'.length dg] := by rw [← hu]; exact (Cs.new _ _ _).alloc _
    have hcs : Cs u4 (u3.heap.size + 1) 29 #[.int .i64 t', .int .i64 k'] := by rw [← hu]; exact Cs.new' _ _ _ (by simp)
    clear hu
    have hb_4 := hid hb
    have KG_4 := hid (KG_3.out.step hb_4.out)
    have LG_4 := hid (LG_3.out.step hb_4.out)
    have Lo_4 := hid (Lo_3.out.step hb_4.out)
    have B_4 := hid (B_3.out.trans (hb_4.out.mono (by omega)))
    have z_4 : u3.heap.size ≤ u4.heap.size := hb_4.out.size
    clear KG_3 LG_3 Lo_3 B_3
    clear hb_4
    clear hb
    have Ko_4 := hid hco
    have yo_4 : u3.heap.size < u4.heap.size := hco.lt
    clear hco
    have Ks_4 := hid hcs
    have ys_4 : u3.heap.size + 1 < u4.heap.size := hcs.lt
    clear hcs
    obtain ⟨qG0, qG1, qG2, qG3⟩ := KG_4.out.four
    go_wp2_with fail
    refine (GroupPropose_spec hR.out _ (LG_4.out.ow.rdg (by omega) (by omega)) (by omega)).mono ?_
    rintro e u5 ⟨Aw, cw, Bw, dw, rfl, ow, hb⟩
    clear qG0 qG1 qG2 qG3
    have hb_5 := hid hb
    have KG_5 := hid (KG_4.out.step hb_5.out)
    have Ko_5 := hid (Ko_4.out.step hb_5.out)
    have Ks_5 := hid (Ks_4.out.step hb_5.out)
    have LG_5 := hid (LG_4.out.step hb_5.out)
    have Lo_5 := hid (Lo_4.out.step hb_5.out)
    have B_5 := hid (B_4.out.trans (hb_5.out.mono (by omega)))
    have z_5 : u4.heap.size ≤ u5.heap.size := hb_5.out.size
    clear KG_4 Ko_4 Ks_4 LG_4 Lo_4 B_4
    clear hb_5
    clear hb
    have Lw_5 := hid (Lg.of ow)
    clear ow
    go_upto_region 6 with (fail)
    obtain ⟨u6, hu⟩ : ∃ W, ((u5.alloc (.cells #[.int .i64 id', .int .i64 ck', .slice Aw P'.length cw, .slice Bw D'.length dw] 25)).alloc (.cells #[.int .i64 t', .int .i64 k'] 29)) = W := ⟨_, rfl⟩
    rw [hu]
    have hb : Below u5.heap.size u5 u6 := by rw [← hu]; exact below2 _ _ _
    have hcw : Cs u6 (u5.heap.size) 25 #[.int .i64 id', .int .i64 ck', .slice Aw P'.length cw, .slice Bw D'.length dw] := by rw [← hu]; exact (Cs.new _ _ _).alloc _
    have hcr : Cs u6 (u5.heap.size + 1) 29 #[.int .i64 t', .int .i64 k'] := by rw [← hu]; exact Cs.new' _ _ _ (by simp)
    clear hu
    have hb_6 := hid hb
    have KG_6 := hid (KG_5.out.step hb_6.out)
    have Ko_6 := hid (Ko_5.out.step hb_6.out)
    have Ks_6 := hid (Ks_5.out.step hb_6.out)
    have LG_6 := hid (LG_5.out.step hb_6.out)
    have Lo_6 := hid (Lo_5.out.step hb_6.out)
    have Lw_6 := hid (Lw_5.out.step hb_6.out)
    have B_6 := hid (B_5.out.trans (hb_6.out.mono (by omega)))
    have z_6 : u5.heap.size ≤ u6.heap.size := hb_6.out.size
    clear KG_5 Ko_5 Ks_5 LG_5 Lo_5 Lw_5 B_5
    clear hb_6
    clear hb
    have Kw_6 := hid hcw
    have yw_6 : u5.heap.size < u6.heap.size := hcw.lt
    clear hcw
    have Kr_6 := hid hcr
    have yr_6 : u5.heap.size + 1 < u6.heap.size := hcr.lt
    clear hcr
    have e0 : (t' == t') = true := by simp
    have e1 : (k' == k') = true := by simp
    cases b' with
    | false =>
      obtain ⟨qo0, qo1, qo2, qo3⟩ := Ko_6.out.four
      obtain ⟨qw0, qw1, qw2, qw3⟩ := Kw_6.out.four
      obtain ⟨qs0, qs1, -, -⟩ := Ks_6.out.two
      obtain ⟨qr0, qr1, -, -⟩ := Kr_6.out.two
      go_wp2_with fail
      refine (sameGroup_same id' ck' _ Lo_6.out.r1 Lo_6.out.r2 Lw_6.out.r1 Lw_6.out.r2 (by omega) (by omega)).mono ?_
      rintro e u7 ⟨rfl, hb⟩
      clear qo0 qo1 qo2 qo3 qw0 qw1 qw2 qw3 qs0 qs1 qr0 qr1
      have hb_7 := hid hb
      have KG_7 := hid (KG_6.out.step hb_7.out)
      have Ko_7 := hid (Ko_6.out.step hb_7.out)
      have Ks_7 := hid (Ks_6.out.step hb_7.out)
      have Kw_7 := hid (Kw_6.out.step hb_7.out)
      have Kr_7 := hid (Kr_6.out.step hb_7.out)
      have LG_7 := hid (LG_6.out.step hb_7.out)
      have Lo_7 := hid (Lo_6.out.step hb_7.out)
      have Lw_7 := hid (Lw_6.out.step hb_7.out)
      have B_7 := hid (B_6.out.trans (hb_7.out.mono (by omega)))
      have z_7 : u6.heap.size ≤ u7.heap.size := hb_7.out.size
      clear KG_6 Ko_6 Ks_6 Kw_6 Kr_6 LG_6 Lo_6 Lw_6 B_6
      clear hb_7
      clear hb
      obtain ⟨qo0, qo1, qo2, qo3⟩ := Ko_7.out.four
      obtain ⟨qw0, qw1, qw2, qw3⟩ := Kw_7.out.four
      obtain ⟨qs0, qs1, -, -⟩ := Ks_7.out.two
      obtain ⟨qr0, qr1, -, -⟩ := Kr_7.out.two
      go_wp2_with fail
      refine (sameGroup_same id' ck' _ Lo_7.out.r1 Lo_7.out.r2 Lw_7.out.r1 Lw_7.out.r2 (by omega) (by omega)).mono ?_
      rintro e u8 ⟨rfl, hb⟩
      clear qo0 qo1 qo2 qo3 qw0 qw1 qw2 qw3 qs0 qs1 qr0 qr1
      have hb_8 := hid hb
      have KG_8 := hid (KG_7.out.step hb_8.out)
      have Ko_8 := hid (Ko_7.out.step hb_8.out)
      have Ks_8 := hid (Ks_7.out.step hb_8.out)
      have Kw_8 := hid (Kw_7.out.step hb_8.out)
      have Kr_8 := hid (Kr_7.out.step hb_8.out)
      have LG_8 := hid (LG_7.out.step hb_8.out)
      have Lo_8 := hid (Lo_7.out.step hb_8.out)
      have Lw_8 := hid (Lw_7.out.step hb_8.out)
      have B_8 := hid (B_7.out.trans (hb_8.out.mono (by omega)))
      have z_8 : u7.heap.size ≤ u8.heap.size := hb_8.out.size
      clear KG_7 Ko_7 Ks_7 Kw_7 Kr_7 LG_7 Lo_7 Lw_7 B_7
      clear hb_8
      clear hb
      go_wp2
      go_ret
      exact ⟨rfl, B_8.out⟩
    | true =>
      obtain ⟨qo0, qo1, qo2, qo3⟩ := Ko_6.out.four
      obtain ⟨qw0, qw1, qw2, qw3⟩ := Kw_6.out.four
      obtain ⟨qs0, qs1, -, -⟩ := Ks_6.out.two
      obtain ⟨qr0, qr1, -, -⟩ := Kr_6.out.two
      go_wp2_with fail
      refine (sameGroup_same id' ck' _ Lo_6.out.r1 Lo_6.out.r2 Lw_6.out.r1 Lw_6.out.r2 (by omega) (by omega)).mono ?_
      rintro e u7 ⟨rfl, hb⟩
      clear qo0 qo1 qo2 qo3 qw0 qw1 qw2 qw3 qs0 qs1 qr0 qr1
      have hb_7 := hid hb
      have KG_7 := hid (KG_6.out.step hb_7.out)
      have Ko_7 := hid (Ko_6.out.step hb_7.out)
      have Ks_7 := hid (Ks_6.out.step hb_7.out)
      have Kw_7 := hid (Kw_6.out.step hb_7.out)
      have Kr_7 := hid (Kr_6.out.step hb_7.out)
      have LG_7 := hid (LG_6.out.step hb_7.out)
      have Lo_7 := hid (Lo_6.out.step hb_7.out)
      have Lw_7 := hid (Lw_6.out.step hb_7.out)
      have B_7 := hid (B_6.out.trans (hb_7.out.mono (by omega)))
      have z_7 : u6.heap.size ≤ u7.heap.size := hb_7.out.size
      clear KG_6 Ko_6 Ks_6 Kw_6 Kr_6 LG_6 Lo_6 Lw_6 B_6
      clear hb_7
      clear hb
      clear Kw_7
      clear Kr_7
      clear Lw_7
      obtain ⟨hkp, hDD⟩ := pr_kept hR.out
      simp only at hDD hkp
      have hDD := hDD.symm
      subst hDD
      replace hkp := hid hkp
      obtain ⟨qG0, qG1, qG2, qG3⟩ := KG_7.out.four
      go_wp2_with fail
      go_loopw [11] (fun v wr => ∃ j : Nat, j ≤ P.length ∧ v = .int .i64 j ∧ Hid (Below u7.heap.size u7 wr)) (fun v _ => P.length - (intOf v).toNat)
      case atStart => exact ⟨0, by omega, rfl, hid (Below.refl _ _)⟩
      case round =>
        obtain ⟨j, hj, rfl, hB⟩ := hrel
        have hsz := hB.out.size
        have KG_r := hid (KG_7.out.step hB.out)
        have Ko_r := hid (Ko_7.out.step hB.out)
        have Ks_r := hid (Ks_7.out.step hB.out)
        have LG_r := hid (LG_7.out.step hB.out)
        have Lo_r := hid (Lo_7.out.step hB.out)
        clear qG0 qG1 qG2 qG3
        obtain ⟨y0, y1, y2, y3⟩ := KG_r.out.four
        obtain ⟨o0, o1, o2, o3⟩ := Ko_r.out.four
        by_cases hlt : j < P.length
        · obtain ⟨b, off, m, t, g, f, rfl, hx, hb, v0, v1, v2, v3⟩ := LG_r.out.r1.at_ hlt
          have i0 : (0 : Int) ≤ (j : Int) := by omega
          have i1 : (j : Int) < (P.length : Int) := by omega
          have hst := hid (hkp.out _ (List.mem_of_getElem? hx.out))
          simp only at hst
          have CE := hid (And.intro v0 (And.intro v1 (And.intro v2 v3)))
          have YG := hid y2
          clear hx v0 v1 v2 v3
          go_upto_region 11 with (fail)
          go_cut [12, 13] (fun v q wx => ∃ bx : Nat, v = .pointer (some ⟨bx, 0, none⟩) ∧ q = .bool true ∧ Hid (Below wr.heap.size wr wx) ∧ Hid (Cs wx bx 34 #[.int .i64 m, .int .i64 t, .int .i64 g, .bool f]))
          case first =>
            have KA : Hid (∀ X, Below wr.heap.size wr X → (X.cell? ⟨u3.heap.size, 0, none⟩ = some (.int .i64 id') ∧ X.cell? ⟨u3.heap.size, 1, none⟩ = some (.int .i64 ck') ∧ X.cell? ⟨u3.heap.size, 2, none⟩ = some (.slice Ag P'.length cg) ∧ X.cell? ⟨u3.heap.size, 3, none⟩ = some (.slice Bg D.length dg)) ∧ X.cell? ⟨u1.heap.size, 2, none⟩ = some (.slice (some ⟨b, off, none⟩) P.length c0) ∧ X.cell? ⟨b, off + j * 4, none⟩ = some (.int .i64 m)) := hid (fun X h => ⟨(Ko_r.out.step h).four, (h.cell (World.block_lt_of_cell? wr _ YG.out)).trans YG.out, (h.cell (World.block_lt_of_cell? wr _ CE.out.1)).trans CE.out.1⟩)
            have D0 := hid (show Below wr.heap.size wr wr.drew from (Below.refl _ _).drew)
            have DZ := hid (show Below wr.heap.size wr (wr.alloc (.cells #[.int .i64 0, .int .i64 0, .int .i64 0, .bool false] 34)).drew from (below1 _ _).drew)
            have CZ := hid (show Cs (wr.alloc (.cells #[.int .i64 0, .int .i64 0, .int .i64 0, .bool false] 34)).drew wr.heap.size 34 #[.int .i64 0, .int .i64 0, .int .i64 0, .bool false] from Cs.new wr _ _)
            have R0 := hid ((Lo_r.out.step D0.out).ow.rdg (by omega) (by omega))
            have RZ := hid ((Lo_r.out.step DZ.out).ow.rdg (by omega) (by omega))
            have zb : wr.heap.size ≤ wr.heap.size := Nat.le_refl _
            clear y0 y1 y2 y3 o0 o1 o2 o3
            go_region_held3 (fun w' => (w'.cell? ⟨u3.heap.size, 0, none⟩ = some (.int .i64 id') ∧ w'.cell? ⟨u3.heap.size, 1, none⟩ = some (.int .i64 ck') ∧ w'.cell? ⟨u3.heap.size, 2, none⟩ = some (.slice Ag P'.length cg) ∧ w'.cell? ⟨u3.heap.size, 3, none⟩ = some (.slice Bg D.length dg)) ∧ w'.cell? ⟨u1.heap.size, 2, none⟩ = some (.slice (some ⟨b, off, none⟩) P.length c0) ∧ w'.cell? ⟨b, off + j * 4, none⟩ = some (.int .i64 m))
              (first | with_reducible exact KA.out _ D0.out | with_reducible exact KA.out _ DZ.out | with_reducible exact KA.out _ D3.out | with_reducible exact KA.out _ (D3.out.alloc D3.out.size _) | with_reducible exact KA.out _ ((((D3.out.setCell (p := ⟨_, 0, none⟩) zb _).setCell (p := ⟨_, 1, none⟩) zb _).setCell (p := ⟨_, 2, none⟩) zb _).setCell (p := ⟨_, 3, none⟩) zb _))
              (first | (go_at_call 10; (with_reducible refine (GroupStamp_impl hst.out _ RZ.out).mono ?_); rintro e X3 ⟨rfl, hb3⟩; have z3 := hid (CZ.out.step hb3); have D3 := hid (DZ.out.trans (hb3.mono DZ.out.size)); obtain ⟨zc0, zc1, zc2, zc3⟩ := z3.out.four; obtain ⟨zf0, zf1, zf2, zf3⟩ := z3.out.free4; clear hb3) | (go_at_call 10; (with_reducible refine (GroupStamp_impl hst.out _ R0.out).mono ?_); rintro e X3 ⟨rfl, hb3⟩; have D3 := hid (D0.out.trans (hb3.mono D0.out.size)); clear hb3))
            all_goals
              go_wp2
              go_meet
              first
                | exact ⟨_, rfl, rfl, hid ((((D3.out.setCell (p := ⟨_, 0, none⟩) zb _).setCell (p := ⟨_, 1, none⟩) zb _).setCell (p := ⟨_, 2, none⟩) zb _).setCell (p := ⟨_, 3, none⟩) zb _), hid ((((z3.out.set 0 (.int .i64 m)).set 1 (.int .i64 t)).set 2 (.int .i64 g)).set 3 (.bool f))⟩
                | exact ⟨_, rfl, rfl, hid (D3.out.alloc D3.out.size _), hid (Cs.new _ _ _)⟩
          case rest =>
            obtain ⟨bx, rfl, rfl, hb5, hc5⟩ := hcut
            have B5 := hid (hB.out.trans (hb5.out.mono hsz))
            have hs5 := B5.out.size
            clear y0 y1 y2 y3 o0 o1 o2 o3
            obtain ⟨m0, m1, m2, m3⟩ := hc5.out.four
            have ce : ∀ (p : Addr) (q : Value), wr.cell? p = some q → wc.cell? p = some q := fun p q h => (hb5.out.cell (p := p) (World.block_lt_of_cell? wr p h)).trans h
            have M0 : ∀ x : BW wc, x.wd.cell? ⟨bx, 0, none⟩ = some (.int .i64 m) := fun x => x.cell m0
            have M1 : ∀ x : BW wc, x.wd.cell? ⟨bx, 1, none⟩ = some (.int .i64 t) := fun x => x.cell m1
            have M2 : ∀ x : BW wc, x.wd.cell? ⟨bx, 2, none⟩ = some (.int .i64 g) := fun x => x.cell m2
            have M3 : ∀ x : BW wc, x.wd.cell? ⟨bx, 3, none⟩ = some (.bool f) := fun x => x.cell m3
            have G2 : ∀ x : BW wc, x.wd.cell? ⟨u1.heap.size, 2, none⟩ = some (.slice (some ⟨b, off, none⟩) P.length c0) := fun x => x.cell (ce _ _ YG.out)
            have C0 : ∀ x : BW wc, x.wd.cell? ⟨b, off + j * 4, none⟩ = some (.int .i64 m) := fun x => x.cell (ce _ _ CE.out.1)
            have C1 : ∀ x : BW wc, x.wd.cell? ⟨b, off + j * 4 + 1, none⟩ = some (.int .i64 t) := fun x => x.cell (ce _ _ CE.out.2.1)
            have C2 : ∀ x : BW wc, x.wd.cell? ⟨b, off + j * 4 + 2, none⟩ = some (.int .i64 g) := fun x => x.cell (ce _ _ CE.out.2.2.1)
            have C3 : ∀ x : BW wc, x.wd.cell? ⟨b, off + j * 4 + 3, none⟩ = some (.bool f) := fun x => x.cell (ce _ _ CE.out.2.2.2)
            have e3 : (m == m) = true := by simp
            have e4 : (t == t) = true := by simp
            have e5 : (g == g) = true := by simp
            have e6 : (f == f) = true := by cases f <;> rfl
            clear m0 m1 m2 m3 ce
            go_wp2_with fail
            refine wp_region_below (by kernel_rfl) (by kernel_rfl) ?_
            repeat (go_big_quiet_step (fail))
            refine wpQuiet_nil ?_
            intro w9 hb9
            have B9 := hid (B5.out.trans (hb9.mono hs5))
            clear hb9
            go_wp2
            go_roundw
            case rel => exact ⟨j + 1, by omega, by go_num, B9⟩
            case measure => simp [intOf]; omega
        · go_wp2_with fail
          refine (sameEntries_same _ Lo_r.out.r2 LG_r.out.r2 (by omega)).mono ?_
          rintro e w9 ⟨rfl, hb9⟩
          go_wp2
          go_ret
          exact ⟨rfl, B_7.out.trans ((hB.out.trans (hb9.mono hsz)).mono (by omega))⟩

theorem lawProposeTrace {a : Option Addr} {len cap : Nat} {zs : List Int} (w : World) (h : RowIs .u8 w a len cap zs) :
    Calls Try.prog 3 #[.slice a len cap] w fun e w' => e = .returned (.bool true) ∧ Below w.heap.size w w' :=
  lawProposeTrace_at w w h (Below.refl _ _) (Nat.le_refl _)
end Go.Proofs.Ytbnmeedmeikepaa
