/-
  The walk of the law FnFinalEager: it returns true, and nothing that was there is written. No condition.
-/
import Derived.Test.YtmfpbeggddkepaaGnM
import Derived.Deep.CutBlock
import Derived.Deep.RegionLaw
import Derived.Deep.RegionHeld3
namespace Go.Proofs.Ytmfpbeggddkepaa
open Go.RowKit
set_option linter.unusedVariables false
set_option linter.unusedSimpArgs false


set_option maxRecDepth 100000 in
set_option maxHeartbeats 16000000 in
theorem lawFinalEager_at {a : Option Addr} {len cap : Nat} {zs : List Int} (w u0 : World) (h : RowIs .u8 u0 a len cap zs) (hB0 : Below w.heap.size w u0) (z_0 : w.heap.size ≤ u0.heap.size) :
    Calls Try.prog 3 #[.slice a len cap] u0 fun e w' => e = .returned (.bool true) ∧ Below w.heap.size w w' := by
  have hl := h.len_leN
  have B_0 := hid hB0
  have h' := hid h
  clear hB0 h
  by_cases hbig : 1048576 < len
  · go_enter Try.func3, Try.ntmps3
    go_wp2
    go_ret
    exact ⟨rfl, B_0.out⟩
  · go_enter Try.func3, Try.ntmps3
    go_wp2_with fail
    refine (DrawGroupBlocked_any _ h'.out).mono ?_
    rintro e u1 ⟨i, k, A0, c0, E0, d0, P, D, rfl, ho, hl, hb⟩
    have hb_1 := hid hb
    have B_1 := hid (B_0.out.trans (hb_1.out.mono (by omega)))
    have z_1 : u0.heap.size ≤ u1.heap.size := hb_1.out.size
    clear  B_0
    clear hb_1
    clear hb
    have hP13 : P.length ≤ 13 := by omega
    have hD13 : D.length ≤ 13 := by omega
    clear hl
    have LG_1 := hid (Lg.of ho)
    clear ho
    go_upto_region 4 with (fail)
    obtain ⟨u2, hu⟩ : ∃ W, (u1.alloc (.cells #[.int .i64 i, .int .i64 k, .slice A0 P.length c0, .slice E0 D.length d0] 25)) = W := ⟨_, rfl⟩
    rw [hu]
    have hb : Below u1.heap.size u1 u2 := by rw [← hu]; exact below1 _ _
    have hcG : Cs u2 (u1.heap.size) 25 #[.int .i64 i, .int .i64 k, .slice A0 P.length c0, .slice E0 D.length d0] := by rw [← hu]; exact Cs.new _ _ _
    clear hu
    have hb_2 := hid hb
    have LG_2 := hid (LG_1.out.step hb_2.out)
    have B_2 := hid (B_1.out.trans (hb_2.out.mono (by omega)))
    have z_2 : u1.heap.size ≤ u2.heap.size := hb_2.out.size
    clear LG_1 B_1
    clear hb_2
    clear hb
    have KG_2 := hid hcG
    have yG_2 : u1.heap.size < u2.heap.size := hcG.lt
    clear hcG
    obtain ⟨r, hR⟩ : ∃ r, blR ⟨i, k, P, D⟩ = r := ⟨_, rfl⟩
    replace hR := hid hR
    obtain ⟨qG0, qG1, qG2, qG3⟩ := KG_2.out.four
    go_wp2_with fail
    refine (GroupBlocked_impl hR.out _ (LG_2.out.ow.rdg (by omega) (by omega))).mono ?_
    rintro e u3 ⟨rfl, hb⟩
    clear qG0 qG1 qG2 qG3
    have hb_3 := hid hb
    have KG_3 := hid (KG_2.out.step hb_3.out)
    have LG_3 := hid (LG_2.out.step hb_3.out)
    have B_3 := hid (B_2.out.trans (hb_3.out.mono (by omega)))
    have z_3 : u2.heap.size ≤ u3.heap.size := hb_3.out.size
    clear KG_2 LG_2 B_2
    clear hb_3
    clear hb
    obtain ⟨qG0, qG1, qG2, qG3⟩ := KG_3.out.four
    go_wp2_with fail
    refine (GroupBlocked_spec hR.out _ (LG_3.out.ow.rdg (by omega) (by omega))).mono ?_
    rintro e u4 ⟨rfl, hb⟩
    clear qG0 qG1 qG2 qG3
    have hb_4 := hid hb
    have KG_4 := hid (KG_3.out.step hb_4.out)
    have LG_4 := hid (LG_3.out.step hb_4.out)
    have B_4 := hid (B_3.out.trans (hb_4.out.mono (by omega)))
    have z_4 : u3.heap.size ≤ u4.heap.size := hb_4.out.size
    clear KG_3 LG_3 B_3
    clear hb_4
    clear hb
    by_cases h0 : r < 0
    · skip
      have e9 : (r == r) = true := by simp
      go_wp2
      go_ret
      exact ⟨rfl, B_4.out⟩
    · skip
      obtain ⟨⟨pm, ⟨pt, pk⟩, pf⟩, l, hv, hPc, e1, e2, hst, -, -⟩ := bl_head hR.out (by omega)
      simp only at hPc e1 e2
      have hPn : 0 < P.length := by rw [hPc]; simp
      subst e2
      replace hst := hid hst
      have hPc2 := hid hPc
      clear hv e1 hPc
      obtain ⟨qG0, qG1, qG2, qG3⟩ := KG_4.out.four
      go_wp2_with fail
      refine (GroupStamp_impl hst.out _ (LG_4.out.ow.rdg (by omega) (by omega))).mono ?_
      rintro e u5 ⟨rfl, hb⟩
      clear qG0 qG1 qG2 qG3
      have hb_5 := hid hb
      have KG_5 := hid (KG_4.out.step hb_5.out)
      have LG_5 := hid (LG_4.out.step hb_5.out)
      have B_5 := hid (B_4.out.trans (hb_5.out.mono (by omega)))
      have z_5 : u4.heap.size ≤ u5.heap.size := hb_5.out.size
      clear KG_4 LG_4 B_4
      clear hb_5
      clear hb
      go_upto_region 9 with (fail)
      obtain ⟨u6, hu⟩ : ∃ W, (u5.alloc (.cells #[.int .i64 pm, .int .i64 pt, .int .i64 pk, .bool false] 31)) = W := ⟨_, rfl⟩
      rw [hu]
      have hb : Below u5.heap.size u5 u6 := by rw [← hu]; exact below1 _ _
      have hce : Cs u6 (u5.heap.size) 31 #[.int .i64 pm, .int .i64 pt, .int .i64 pk, .bool false] := by rw [← hu]; exact Cs.new _ _ _
      clear hu
      have hb_6 := hid hb
      have KG_6 := hid (KG_5.out.step hb_6.out)
      have LG_6 := hid (LG_5.out.step hb_6.out)
      have B_6 := hid (B_5.out.trans (hb_6.out.mono (by omega)))
      have z_6 : u5.heap.size ≤ u6.heap.size := hb_6.out.size
      clear KG_5 LG_5 B_5
      clear hb_6
      clear hb
      have Ke_6 := hid hce
      have ye_6 : u5.heap.size < u6.heap.size := hce.lt
      clear hce
      obtain ⟨b, off, xm, xt, xk, xf, rfl, hx, hbb, d0, d1, d2, d3⟩ := LG_6.out.r1.at_ hPn
      have hx' := hx.out
      rw [hPc2.out] at hx'
      simp only [List.getElem?_cons_zero, Option.some.injEq, Prod.mk.injEq] at hx'
      obtain ⟨rfl, ⟨rfl, rfl⟩, rfl⟩ := hx'
      clear hx hPc2
      simp only [Nat.zero_mul, Nat.add_zero] at d0 d1 d2 d3
      have i1 : (0 : Int) < (P.length : Int) := by omega
      obtain ⟨m0, m1, m2, m3⟩ := Ke_6.out.four
      obtain ⟨-, -, g2, -⟩ := KG_6.out.four
      have M0 : ∀ x : BW u6, x.wd.cell? ⟨u5.heap.size, 0, none⟩ = some (.int .i64 pm) := fun x => x.cell m0
      have M1 : ∀ x : BW u6, x.wd.cell? ⟨u5.heap.size, 1, none⟩ = some (.int .i64 pt) := fun x => x.cell m1
      have M2 : ∀ x : BW u6, x.wd.cell? ⟨u5.heap.size, 2, none⟩ = some (.int .i64 pk) := fun x => x.cell m2
      have M3 : ∀ x : BW u6, x.wd.cell? ⟨u5.heap.size, 3, none⟩ = some (.bool false) := fun x => x.cell m3
      have G2 : ∀ x : BW u6, x.wd.cell? ⟨u1.heap.size, 2, none⟩ = some (.slice (some ⟨b, off, none⟩) P.length c0) := fun x => x.cell g2
      have D0 : ∀ x : BW u6, x.wd.cell? ⟨b, off, none⟩ = some (.int .i64 pm) := fun x => x.cell d0
      have D1 : ∀ x : BW u6, x.wd.cell? ⟨b, off + 1, none⟩ = some (.int .i64 pt) := fun x => x.cell d1
      have D2 : ∀ x : BW u6, x.wd.cell? ⟨b, off + 2, none⟩ = some (.int .i64 pk) := fun x => x.cell d2
      have D3 : ∀ x : BW u6, x.wd.cell? ⟨b, off + 3, none⟩ = some (.bool false) := fun x => x.cell d3
      have e3 : (pm == pm) = true := by simp
      have e4 : (pt == pt) = true := by simp
      have e5 : (pk == pk) = true := by simp
      clear m0 m1 m2 m3 g2 d0 d1 d2 d3
      go_wp2_with fail
      refine wp_region_below (by kernel_rfl) (by kernel_rfl) ?_
      repeat (go_big_quiet_step (fail))
      refine wpQuiet_nil ?_
      intro w9 hb9
      have B_9 := hid (B_6.out.trans (hb9.mono (by omega)))
      clear hb9
      go_wp2
      go_ret
      exact ⟨rfl, B_9.out⟩

theorem lawFinalEager {a : Option Addr} {len cap : Nat} {zs : List Int} (w : World) (h : RowIs .u8 w a len cap zs) :
    Calls Try.prog 3 #[.slice a len cap] w fun e w' => e = .returned (.bool true) ∧ Below w.heap.size w w' :=
  lawFinalEager_at w w h (Below.refl _ _) (Nat.le_refl _)
end Go.Proofs.Ytmfpbeggddkepaa
