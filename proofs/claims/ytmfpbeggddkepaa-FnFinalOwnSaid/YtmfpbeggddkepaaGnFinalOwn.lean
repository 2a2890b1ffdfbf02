/-
  The walk of the law FnFinalOwn: it returns true, and nothing that was there is written. No condition.
-/
import Derived.Test.YtmfpbeggddkepaaGnM
import Derived.Test.YtmfpbeggddkepaaGmYi
import Derived.Deep.CutBlock
import Derived.Deep.RegionLaw
import Derived.Deep.RegionHeld3
namespace Go.Proofs.Ytmfpbeggddkepaa
open Go.RowKit
set_option linter.unusedVariables false
set_option linter.unusedSimpArgs false


set_option maxRecDepth 100000 in
set_option maxHeartbeats 16000000 in
theorem lawFinalOwn_at {a : Option Addr} {len cap : Nat} {zs : List Int} (w u0 : World) (h : RowIs .u8 u0 a len cap zs) (hB0 : Below w.heap.size w u0) (z_0 : w.heap.size ≤ u0.heap.size) :
    Calls Try.prog 7 #[.slice a len cap] u0 fun e w' => e = .returned (.bool true) ∧ Below w.heap.size w w' := by
  have hl := h.len_leN
  have B_0 := hid hB0
  have h' := hid h
  clear hB0 h
  by_cases hbig : 1048576 < len
  · go_enter Try.func7, Try.ntmps7
    go_wp2
    go_ret
    exact ⟨rfl, B_0.out⟩
  · go_enter Try.func7, Try.ntmps7
    go_wp2_with fail
    refine (DrawGroupBlocked_any _ h'.out).mono ?_
    rintro e u1 ⟨i, k, A0, c0, E0, d0, P, D, rfl, ho, hl, hb⟩
    have hb_1 := hid hb
    have B_1 := hid (B_0.out.trans (hb_1.out.mono (by omega)))
    have z_1 : u0.heap.size ≤ u1.heap.size := hb_1.out.size
    clear  B_0
    clear hb_1
    clear hb
    have hP13 : P.length ≤ 13 := by omega
    have hD13 : D.length ≤ 13 := by omega
    clear hl
    have LG_1 := hid (Lg.of ho)
    clear ho
    go_upto_region 4 with (fail)
    obtain ⟨u2, hu⟩ : ∃ W, (u1.alloc (.cells #[.int .i64 i, .int .i64 k, .slice A0 P.length c0, .slice E0 D.length d0] 25)) = W := ⟨_, rfl⟩
    rw [hu]
    have hb : Below u1.heap.size u1 u2 := by rw [← hu]; exact below1 _ _
    have hcG : Cs u2 (u1.heap.size) 25 #[.int .i64 i, .int .i64 k, .slice A0 P.length c0, .slice E0 D.length d0] := by rw [← hu]; exact Cs.new _ _ _
    clear hu
    have hb_2 := hid hb
    have LG_2 := hid (LG_1.out.step hb_2.out)
    have B_2 := hid (B_1.out.trans (hb_2.out.mono (by omega)))
    have z_2 : u1.heap.size ≤ u2.heap.size := hb_2.out.size
    clear LG_1 B_1
    clear hb_2
    clear hb
    have KG_2 := hid hcG
    have yG_2 : u1.heap.size < u2.heap.size := hcG.lt
    clear hcG
    obtain ⟨r, hR⟩ : ∃ r, blR ⟨i, k, P, D⟩ = r := ⟨_, rfl⟩
    replace hR := hid hR
    obtain ⟨qG0, qG1, qG2, qG3⟩ := KG_2.out.four
    go_wp2_with fail
    refine (GroupBlocked_impl hR.out _ (LG_2.out.ow.rdg (by omega) (by omega))).mono ?_
    rintro e u3 ⟨rfl, hb⟩
    clear qG0 qG1 qG2 qG3
    have hb_3 := hid hb
    have KG_3 := hid (KG_2.out.step hb_3.out)
    have LG_3 := hid (LG_2.out.step hb_3.out)
    have B_3 := hid (B_2.out.trans (hb_3.out.mono (by omega)))
    have z_3 : u2.heap.size ≤ u3.heap.size := hb_3.out.size
    clear KG_2 LG_2 B_2
    clear hb_3
    clear hb
    obtain ⟨qG0, qG1, qG2, qG3⟩ := KG_3.out.four
    go_wp2_with fail
    refine (GroupBlocked_spec hR.out _ (LG_3.out.ow.rdg (by omega) (by omega))).mono ?_
    rintro e u4 ⟨rfl, hb⟩
    clear qG0 qG1 qG2 qG3
    have hb_4 := hid hb
    have KG_4 := hid (KG_3.out.step hb_4.out)
    have LG_4 := hid (LG_3.out.step hb_4.out)
    have B_4 := hid (B_3.out.trans (hb_4.out.mono (by omega)))
    have z_4 : u3.heap.size ≤ u4.heap.size := hb_4.out.size
    clear KG_3 LG_3 B_3
    clear hb_4
    clear hb
    by_cases h0 : r < 0
    · skip
      have e9 : (r == r) = true := by simp
      go_wp2
      go_ret
      exact ⟨rfl, B_4.out⟩
    · skip
      obtain ⟨⟨pm, ⟨pt, pk⟩, pf⟩, l, hv, hPc, e1, e2, hst, -, -⟩ := bl_head hR.out (by omega)
      simp only at hPc e1 e2
      have hPn : 0 < P.length := by rw [hPc]; simp
      have hfo := fi_own hv hPc
      simp only at hfo
      rw [e1] at hfo
      obtain ⟨g2, hg2⟩ : ∃ g2, fiG ⟨i, k, P, D⟩ r (pt, pk) = g2 := ⟨_, rfl⟩
      rw [hg2] at hfo
      obtain ⟨id', ck', P', D'⟩ := g2
      have hll := (fiR_lenN hfo)
      replace hfo := hid hfo
      clear hv hst hg2
      obtain ⟨b, off, xm, xt, xk, xf, rfl, hx, hbb, d0, d1, d2, d3⟩ := LG_4.out.r1.at_ hPn
      have hx' := hx.out
      rw [hPc] at hx'
      simp only [List.getElem?_cons_zero, Option.some.injEq, Prod.mk.injEq] at hx'
      obtain ⟨rfl, ⟨rfl, rfl⟩, rfl⟩ := hx'
      clear hx hPc
      simp only [Nat.zero_mul, Nat.add_zero] at d0 d1 d2 d3
      have i1 : (0 : Int) < (P.length : Int) := by omega
      have DL := hid (And.intro d1 d2)
      clear d0 d1 d2 d3
      have i0 : (0 : Int) ≤ ((0 : Nat) : Int) := by decide
      have i9 : (((0 : Nat) : Int)) < (P.length : Int) := by omega
      obtain ⟨TT, hTT⟩ : ∃ TT, r :: msgs (tld l) = TT := ⟨_, rfl⟩
      rw [hTT] at hfo hll
      replace hTT := hid hTT
      go_upto_region 8 with (fail)
      go_cut [7, 8] (fun v o wx => ∃ (A3 : Option Addr) (c3 : Nat), v = .slice A3 TT.length c3 ∧ o = .bool true ∧ Hid (Below u4.heap.size u4 wx) ∧ Hid (OwI wx u4.heap.size (.slice A3 TT.length c3) TT))
      case first =>
        have KA : Hid (∀ X, Below u4.heap.size u4 X → (X.cell? ⟨u1.heap.size, 0, none⟩ = some (.int .i64 i) ∧ X.cell? ⟨u1.heap.size, 1, none⟩ = some (.int .i64 k) ∧ X.cell? ⟨u1.heap.size, 2, none⟩ = some (.slice (some ⟨b, off, none⟩) P.length c0) ∧ X.cell? ⟨u1.heap.size, 3, none⟩ = some (.slice E0 D.length d0)) ∧ X.cell? ⟨b, off + 1, none⟩ = some (.int .i64 pt) ∧ X.cell? ⟨b, off + 2, none⟩ = some (.int .i64 pk)) := hid (fun X h => ⟨(KG_4.out.step h).four, (h.cell (p := ⟨b, off + 1, none⟩) hbb).trans DL.out.1, (h.cell (p := ⟨b, off + 2, none⟩) hbb).trans DL.out.2⟩)
        have D0 := hid (show Below u4.heap.size u4 u4.drew from (Below.refl _ _).drew)
        have DZ := hid (show Below u4.heap.size u4 (u4.alloc (.cells #[.int .i64 0, .int .i64 0, .slice none 0 0, .slice none 0 0] 25)).drew from (below1 _ _).drew)
        have CZ := hid (show Cs (u4.alloc (.cells #[.int .i64 0, .int .i64 0, .slice none 0 0, .slice none 0 0] 25)).drew u4.heap.size 25 #[.int .i64 0, .int .i64 0, .slice none 0 0, .slice none 0 0] from Cs.new u4 _ _)
        have R0 := hid ((LG_4.out.step D0.out).ow.rdg (by omega) (by omega))
        have RZ := hid ((LG_4.out.step DZ.out).ow.rdg (by omega) (by omega))
        have hNN : P.length + D.length + 1 < 1099511627776 := by omega
        have zb : u4.heap.size ≤ u4.heap.size := Nat.le_refl _
        go_region_held3 (fun w' => (w'.cell? ⟨u1.heap.size, 0, none⟩ = some (.int .i64 i) ∧ w'.cell? ⟨u1.heap.size, 1, none⟩ = some (.int .i64 k) ∧ w'.cell? ⟨u1.heap.size, 2, none⟩ = some (.slice (some ⟨b, off, none⟩) P.length c0) ∧ w'.cell? ⟨u1.heap.size, 3, none⟩ = some (.slice E0 D.length d0)) ∧ w'.cell? ⟨b, off + 1, none⟩ = some (.int .i64 pt) ∧ w'.cell? ⟨b, off + 2, none⟩ = some (.int .i64 pk))
          (first | with_reducible exact KA.out _ D0.out | with_reducible exact KA.out _ DZ.out | with_reducible exact KA.out _ D3.out | with_reducible exact KA.out _ (D3.out.alloc D3.out.size _) | with_reducible exact KA.out _ ((((D3.out.setCell (p := ⟨_, 0, none⟩) zb _).setCell (p := ⟨_, 1, none⟩) zb _).setCell (p := ⟨_, 2, none⟩) zb _).setCell (p := ⟨_, 3, none⟩) zb _))
          (first | (go_at_call 17; (with_reducible refine (GroupFinal_impl hfo.out _ RZ.out hNN).mono ?_); rintro e X3 ⟨E1, f1, E2, f2, E3, f3, rfl, o3, i3, hb3⟩; have z3 := hid (CZ.out.step hb3); have zlt := CZ.out.lt; have D3 := hid (DZ.out.trans (hb3.mono DZ.out.size)); have i3 := hid i3; obtain ⟨zc0, zc1, zc2, zc3⟩ := z3.out.four; obtain ⟨zf0, zf1, zf2, zf3⟩ := z3.out.free4; clear hb3 o3) | (go_at_call 17; (with_reducible refine (GroupFinal_impl hfo.out _ R0.out hNN).mono ?_); rintro e X3 ⟨E1, f1, E2, f2, E3, f3, rfl, o3, i3, hb3⟩; have D3 := hid (D0.out.trans (hb3.mono D0.out.size)); have i3 := hid i3; clear hb3 o3))
        all_goals
          go_wp2
          go_meet
          first
            | exact ⟨_, _, rfl, rfl, hid ((((D3.out.setCell (p := ⟨_, 0, none⟩) zb _).setCell (p := ⟨_, 1, none⟩) zb _).setCell (p := ⟨_, 2, none⟩) zb _).setCell (p := ⟨_, 3, none⟩) zb _), hid (OwI.more (own_of_block i3.out fun g hg => ((Kp.refl (fun k => k = u4.heap.size) X3).set4 (b := u4.heap.size) rfl _ _ _ _).block g (i3.out.lt g hg).2 (fun e => by have := (i3.out.lt g hg).1; omega)) DZ.out.size)⟩
            | exact ⟨_, _, rfl, rfl, hid (D3.out.alloc D3.out.size _), hid (OwI.more (own_of_block i3.out fun g hg => (below1 X3 _).block g (i3.out.lt g hg).2) D0.out.size)⟩
      case rest =>
        obtain ⟨Cx, ex, rfl, rfl, hb, ix⟩ := hcut
        obtain ⟨u5, rfl⟩ : ∃ W, W = wc := ⟨_, rfl⟩
        replace ix := ix.out
        skip
        rw [← hTT.out] at ix ⊢
        have hb_5 := hid hb.out
        have KG_5 := hid (KG_4.out.step hb_5.out)
        have LG_5 := hid (LG_4.out.step hb_5.out)
        have B_5 := hid (B_4.out.trans (hb_5.out.mono (by omega)))
        have z_5 : u4.heap.size ≤ u5.heap.size := hb_5.out.size
        clear KG_4 LG_4 B_4
        clear hb_5
        clear hb
        have Nx_5 := hid (Lv.ofI ix)
        clear ix
        obtain ⟨ad, z, rfl, hz, hc⟩ := RdI.at' Nx_5.out.at_ (k := 0) (by simp)
        have hz' := hz.out
        simp only [List.getD_cons_zero] at hz'
        subst hz'
        have ea : ad.add 0 = ad := rfl
        rw [ea] at hc
        clear ea
        have i2 : (0 : Int) < (((r :: msgs (tld l)).length : Nat) : Int) := by rw [List.length_cons]; omega
        have e9 : (r == r) = true := by simp
        obtain ⟨nl, hnl⟩ : ∃ nl, (r :: msgs (tld l)).length = nl := ⟨_, rfl⟩
        rw [hnl] at i2 ⊢
        clear hz
        go_wp2
        go_ret
        exact ⟨rfl, B_5.out⟩

theorem lawFinalOwn {a : Option Addr} {len cap : Nat} {zs : List Int} (w : World) (h : RowIs .u8 w a len cap zs) :
    Calls Try.prog 7 #[.slice a len cap] w fun e w' => e = .returned (.bool true) ∧ Below w.heap.size w w' :=
  lawFinalOwn_at w w h (Below.refl _ _) (Nat.le_refl _)
end Go.Proofs.Ytmfpbeggddkepaa
