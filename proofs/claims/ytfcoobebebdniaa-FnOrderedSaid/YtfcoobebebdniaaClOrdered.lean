/-
  The walk of the law FnOrdered. No condition.
-/
import Derived.Test.YtfcoobebebdniaaCkC
import Derived.Test.YtfcoobebebdniaaCeF
import Derived.Test.YtfcoobebebdniaaCdS
namespace Go.Proofs.Ytfcoobebebdniaa
open Go.RowKit
set_option linter.unusedVariables false
set_option linter.unusedSimpArgs false

theorem pos_of {p a b : Prop} {d : Decidable p} (h : p) (ha : a) : @ite Prop p d a b := by rw [if_pos h]; exact ha

theorem neg_of {p a b : Prop} {d : Decidable p} (h : ¬ p) (hb : b) : @ite Prop p d a b := by rw [if_neg h]; exact hb

theorem CreditsOrdered_asL {A1 A2 : Option Addr} {n1 n2 c1 c2 : Nat} {c : Cr} {r : Bool} (h : orB c = r) (w : World) (hr : RdC w A1 n1 A2 n2 c) :
    Calls Try.prog 36 #[crV (.slice A1 n1 c1) (.slice A2 n2 c2)] w fun e w' => e = .returned (.bool r) ∧ Below w.heap.size w w' := by
  subst h; exact CreditsOrdered_spec w hr

theorem CreditsOrdered_iasL {A1 A2 : Option Addr} {n1 n2 c1 c2 : Nat} {c : Cr} {r : Bool} (h : orB c = r) (w : World) (hr : RdC w A1 n1 A2 n2 c) :
    Calls Try.prog 21 #[crV (.slice A1 n1 c1) (.slice A2 n2 c2)] w fun e w' => e = .returned (.bool r) ∧ Below w.heap.size w w' := by
  subst h; exact CreditsOrdered_impl w hr

set_option maxRecDepth 100000 in
set_option maxHeartbeats 8000000 in
theorem lawOrdered {a : Option Addr} {len cap : Nat} {cs : List Int} (w : World) (h : RowIs .u8 w a len cap cs) :
    Calls Try.prog 13 #[.slice a len cap] w fun e w' => e = .returned (.bool true) ∧ Below w.heap.size w w' := by
  have h' := hid h
  clear h
  by_cases hbig : len ≤ 1048576
  · go_enter Try.func13, Try.ntmps13
    go_wp2_with fail
    refine (DrawCreditsOrdered_any w h'.out).mono ?_
    rintro e w1 ⟨F, H, vals, c, rfl, ho, hs, hb⟩
    obtain ⟨A1, c1, A2, c2, rfl, rfl, -⟩ := ho.rdS hs
    obtain ⟨n1, hn1⟩ : ∃ n, c.fr.length = n := ⟨_, rfl⟩
    obtain ⟨n2, hn2⟩ : ∃ n, c.hs.length = n := ⟨_, rfl⟩
    rw [hn1, hn2] at ho
    rw [hn1, hn2]
    have hr1 := hid (ho.rdE hs)
    have hB1 := hid hb
    have hz1 := hb.size
    have hn26 : n2 ≤ 6 := by rw [← hn2]; exact hs.h
    replace hs := hid hs
    clear ho hb
    go_upto_region 4 with (fail)
    obtain ⟨u0, hu0⟩ : ∃ W, w1.alloc (.cells #[.slice A1 n1 c1, .slice A2 n2 c2] 28) = W := ⟨_, rfl⟩
    rw [hu0]
    have hbb : Below w1.heap.size w1 u0 := by rw [← hu0]; exact below1 _ _
    have hK := hid (show Cs u0 w1.heap.size 28 #[.slice A1 n1 c1, .slice A2 n2 c2] by rw [← hu0]; exact Cs.new _ _ _)
    have hB2 := hid (hB1.out.trans (hbb.mono hz1))
    have hr2 := hid (hr1.out.step hbb)
    obtain ⟨xb, hxb⟩ : ∃ b, w1.heap.size = b := ⟨_, rfl⟩
    rw [hxb] at hK
    try rw [hxb]
    clear hbb hu0 hxb hz1 hB1 hr1
    obtain ⟨R, hR⟩ : ∃ R, orB c = R := ⟨_, rfl⟩
    replace hR := hid hR
    obtain ⟨d0, d1, -, -⟩ := hK.out.two
    go_wp2_with fail
    refine (CreditsOrdered_iasL hR.out _ hr2.out).mono ?_
    rintro e w3 ⟨rfl, hb3⟩
    have hK3 := hid (hK.out.step hb3)
    have hB3 := hid (hB2.out.trans (hb3.mono hB2.out.size))
    have hr3 := hid (hr2.out.step hb3)
    clear hb3 hK hB2 hr2 d0 d1
    obtain ⟨d0, d1, -, -⟩ := hK3.out.two
    go_wp2_with fail
    refine (CreditsOrdered_asL hR.out _ hr3.out).mono ?_
    rintro e w4 ⟨rfl, hb4⟩
    have hK4 := hid (hK3.out.step hb4)
    have hB4 := hid (hB3.out.trans (hb4.mono hB3.out.size))
    have hr4 := hid (hr3.out.step hb4)
    clear hb4 hK3 hB3 hr3 d0 d1
    obtain ⟨d0, d1, -, -⟩ := hK4.out.two
    cases R with
    | false =>
      go_wp2
      go_ret
      exact ⟨rfl, hB4.out⟩
    | true =>
      have hO := hid (orB_true.1 hR.out).2
      go_wp2_with fail
      go_loopw [6] (fun v wr => ∃ (i : Nat), i ≤ n2 ∧ v = .int .i64 (i : Int) ∧ Hid (Below w4.heap.size w4 wr)) (fun v _ => n2 - (intOf v).toNat)
      case atStart => exact ⟨0, by omega, rfl, hid (Below.refl _ _)⟩
      case round =>
        obtain ⟨i, hi, rfl, hb⟩ := hrel
        have hKr := hid (hK4.out.step hb.out)
        have hrr := hid (hr4.out.step hb.out)
        clear d0 d1
        obtain ⟨d0, d1, -, -⟩ := hKr.out.two
        by_cases hin : i < n2
        · have i0 : (0 : Int) ≤ (i : Int) := by omega
          have i1 : (i : Int) < (n2 : Int) := by omega
          obtain ⟨b, off, Ai, m, ci, rfl, hbb, hm5, e0, e1, hri, hmc, hci, hml⟩ := hrr.out.at_ hin
          obtain ⟨wo, hwo⟩ : ∃ W, W = wr := ⟨_, rfl⟩
          subst hwo
          go_wp2
          go_loopw [7] (fun v wq => ∃ (j : Nat), j ≤ m ∧ v = .int .i64 (j : Int) ∧ Hid (Below wo.heap.size wo wq)) (fun v _ => m - (intOf v).toNat)
          case atStart => exact ⟨0, by omega, rfl, hid (Below.refl _ _)⟩
          case round =>
            obtain ⟨j, hj, rfl, hbq⟩ := hrel
            have hKq := hid (hKr.out.step hbq.out)
            have hrq := hid (hrr.out.step hbq.out)
            clear d0 d1 e0 e1 hri hmc hci hml
            obtain ⟨d0, d1, -, -⟩ := hKq.out.two
            obtain ⟨b', off', Ai', m', ci', ee, hbb', hm5', e0, e1, hri, hmc, hci, hml⟩ := hrq.out.at_ hin
            injection ee with ee
            injection ee with ee1 ee2
            subst ee1; subst ee2
            obtain rfl : m' = m := hm5'.out.symm.trans hm5.out
            by_cases hjm : j < m'
            · have j0 : (0 : Int) ≤ (j : Int) := by omega
              have j1 : (j : Int) < (m' : Int) := by omega
              obtain ⟨ad, z, rfl, hz, hc⟩ := RdI.at' hri.out hjm
              obtain ⟨wt, hwt⟩ : ∃ x, (c.h i).2 = x := ⟨_, rfl⟩
              rw [hwt] at e1
              have hfact : 0 ≤ wt → ¬ (wt ≤ z) := fun h0 h1 => by
                have := hO.out i (by omega) (by rw [hwt]; exact h0) z (by
                  have hl := hm5.out
                  rw [← hz.out, List.getD_eq_getElem?_getD, List.getElem?_eq_getElem (show j < (c.h i).1.length by rw [hl]; exact hjm)]
                  exact List.getElem_mem _)
                rw [hwt] at this
                omega
              have hbd := hid (hbq.out.trans ((Below.refl wr.heap.size wr).drew.mono hbq.out.size))
              rcases (show 0 ≤ wt ∨ wt < 0 by omega) with hw0 | hw0
              · have hzw := hfact hw0
                go_wp2_with fail
                refine wp_region_still_tail 24 (by kernel_rfl) (by kernel_rfl) ?_
                simp only [List.take_succ_cons, List.take_zero, List.drop_succ_cons, List.drop_zero]
                refine StillR.of ?_
                iterate 24 (refine StillR.step (fun K hK => ?_); go_simp; (try refine pos_of hw0 ?_); refine hK _ ?_; clear hK K)
                refine StillR.nil ?_
                change wpList _ _ _ _ _ wr.drew
                go_wp2
                go_roundw
                case rel => exact ⟨j + 1, by omega, by go_num, hbd⟩
                case measure => simp [intOf]; omega
              · clear hfact

                go_wp2_with fail
                refine wp_region_still_tail 24 (by kernel_rfl) (by kernel_rfl) ?_
                simp only [List.take_succ_cons, List.take_zero, List.drop_succ_cons, List.drop_zero]
                refine StillR.of ?_
                iterate 24 (refine StillR.step (fun K hK => ?_); go_simp; (try refine neg_of (Int.not_le.2 hw0) ?_); refine hK _ ?_; clear hK K)
                refine StillR.nil ?_
                change wpList _ _ _ _ _ wr.drew
                go_wp2
                go_roundw
                case rel => exact ⟨j + 1, by omega, by go_num, hbd⟩
                case measure => simp [intOf]; omega
            · obtain rfl : j = m' := by omega
              have hjj : ¬ ((j : Int) < (j : Int)) := by omega
              have hbf := hid (hb.out.trans (hbq.out.mono hb.out.size))
              go_wp2
              go_roundw
              case rel => exact ⟨i + 1, by omega, by go_num, hbf⟩
              case measure => simp [intOf]; omega
        · obtain rfl : i = n2 := by omega
          have hii : ¬ ((i : Int) < (i : Int)) := by omega
          have hBf := hid (hB4.out.trans (hb.out.mono hB4.out.size))
          go_wp2
          go_ret
          exact ⟨rfl, hBf.out⟩
  · have hgt : (len : Int) > 1048576 := by omega
    go_enter Try.func13, Try.ntmps13
    go_wp2
    go_ret
    exact ⟨rfl, Below.refl _ _⟩
end Go.Proofs.Ytfcoobebebdniaa
