/-
  The walk of the law FnTxnLocal. No condition.
-/
import Derived.Test.YteagmkhpfmiaiaaSwO
namespace Go.Proofs.Yteagmkhpfmiaiaa
open Go.RowKit
set_option linter.unusedVariables false
set_option linter.unusedSimpArgs false

set_option maxRecDepth 100000 in
set_option maxHeartbeats 16000000 in
theorem lawTxnLocal {a : Option Addr} {len cap : Nat} {cs : List Int} (w : World) (h : RowIs .u8 w a len cap cs) :
    Calls Try.prog 7 #[.slice a len cap] w fun e w' => e = .returned (.bool true) ∧ Below w.heap.size w w' := by
  have h' := hid h
  clear h
  by_cases hbig : len ≤ 1048576
  · go_enter Try.func7, Try.ntmps7
    go_wp2_with fail
    refine (DrawTxnApply_any w h'.out).mono ?_
    rintro e w1 ⟨A, A1, A2, c, c1, c2, n, n1, n2, zs, t, rfl, hs1, hn, hin, hr1, hl1, hl2, hb⟩
    have hB1 := hid hb
    have hz1 := hb.size
    replace hs1 := hid hs1
    replace hr1 := hid hr1
    replace hin := hid hin
    clear hb
    go_upto_region 4 with (fail)
    obtain ⟨m, hm⟩ : ∃ m, t.need = m := ⟨_, rfl⟩
    rw [hm]
    replace hm := hid hm
    obtain ⟨u0, hu0⟩ : ∃ W, w1.alloc (.cells #[.slice A1 n1 c1, .int .i64 m, .slice A2 n2 c2] 26) = W := ⟨_, rfl⟩
    rw [hu0]
    have hbb : Below w1.heap.size w1 u0 := by rw [← hu0]; exact below1 _ _
    have hK2 := hid (show Cs u0 w1.heap.size 26 #[.slice A1 n1 c1, .int .i64 m, .slice A2 n2 c2] by rw [← hu0]; exact Cs.new _ _ _)
    have hB2 := hid (hB1.out.trans (hbb.mono hz1))
    have hs2 := hid (hs1.out.stp hbb)
    have hr2 := hid (hr1.out.step hbb)
    obtain ⟨xb, hxb⟩ : ∃ b, w1.heap.size = b := ⟨_, rfl⟩
    rw [hxb] at hK2
    try rw [hxb]
    clear hbb hu0 hxb hz1 hB1 hr1 hs1
    obtain ⟨O, hO⟩ : ∃ O, appS zs t = O := ⟨_, rfl⟩
    obtain ⟨q, hq⟩ : ∃ q, appB zs t = q := ⟨_, rfl⟩
    obtain ⟨k, hk⟩ : ∃ k, O.length = k := ⟨_, rfl⟩
    have hk15 : k ≤ 15 := by rw [← hk, ← hO]; exact app_len
    replace hO := hid hO
    replace hq := hid hq
    replace hk := hid hk
    obtain ⟨d0, d1, d2⟩ := hK2.out.tri
    go_wp2_with fail
    refine (TxnApply_iasL hO.out hq.out hk.out hm.out _ hs2.out (by omega) hr2.out).mono ?_
    rintro e w3 ⟨A5, c5, rfl, hR3, hb3⟩
    have hK3 := hid (hK2.out.step hb3)
    have hB3 := hid (hB2.out.trans (hb3.mono hB2.out.size))
    have hs3 := hid (hs2.out.stp hb3)
    have hr3 := hid (hr2.out.step hb3)
    replace hR3 := hid hR3
    clear hb3 hK2 hB2 hr2 hs2 d0 d1 d2
    obtain ⟨d0, d1, d2⟩ := hK3.out.tri
    go_wp2_with fail
    refine (TxnApply_asL hO.out hq.out hk.out hm.out _ hs3.out (by omega) hr3.out).mono ?_
    rintro e w4 ⟨A6, c6, rfl, hW4, hb4⟩
    have hK4 := hid (hK3.out.step hb4)
    have hB4 := hid (hB3.out.trans (hb4.mono hB3.out.size))
    have hs4 := hid (hs3.out.stp hb4)
    have hr4 := hid (hr3.out.step hb4)
    have hR4 := hid (hR3.out.stp hb4)
    replace hW4 := hid hW4
    clear hb4 hK3 hB3 hr3 hs3 hR3 d0 d1 d2
    obtain ⟨d0, d1, d2⟩ := hK4.out.tri
    go_wp2_with fail
    refine (sameInts_eq rfl _ hR4.out hW4.out (by omega) (by omega)).mono ?_
    rintro e w5 ⟨rfl, hb5⟩
    have hK5 := hid (hK4.out.step hb5)
    have hB5 := hid (hB4.out.trans (hb5.mono hB4.out.size))
    have hs5 := hid (hs4.out.stp hb5)
    have hr5 := hid (hr4.out.step hb5)
    have hR5 := hid (hR4.out.stp hb5)
    have hW5 := hid (hW4.out.stp hb5)
    clear hb5 hK4 hB4 hr4 hs4 hR4 hW4 d0 d1 d2
    obtain ⟨d0, d1, d2⟩ := hK5.out.tri
    by_cases hk0 : k = 0
    · subst hk0
      go_wp2_with fail
      refine (sameInts_eq rfl _ hR5.out hW5.out (by omega) (by omega)).mono ?_
      rintro e w6 ⟨rfl, hb6⟩
      have hB6 := hid (hB5.out.trans (hb6.mono hB5.out.size))
      clear hb6
      go_wp2
      go_ret
      exact ⟨rfl, hB6.out⟩
    · have hk1 : ((k : Int) == 0) = false := by simp; omega
      obtain ⟨G, hG⟩ : ∃ G, tgrpR t = G := ⟨_, rfl⟩
      obtain ⟨kg, hkg⟩ : ∃ k, G.length = k := ⟨_, rfl⟩
      have hkg5 : kg ≤ 5 := by rw [← hkg, ← hG]; exact tgrp_len t
      replace hG := hid hG
      replace hkg := hid hkg
      have hkeep := hid (show ∀ g : Int, 0 ≤ g → g ≤ 4 → hasB G g = false → partR O g = partR zs g from fun g h0 h4 hg => by
        have := part_keep (zs := zs) (t := t) (g := g) (by rw [hO.out, hk.out]; exact hk0) h0 h4 (by rw [hG.out]; exact hg)
        rw [hO.out] at this
        exact this)
      clear d0 d1 d2
      go_wp2
      go_loopw [9] (fun i wr => ∃ (r : Nat), r ≤ 5 ∧ i = .int .i64 (r : Int) ∧ Hid (Below w5.heap.size w5 wr)) (fun i _ => 5 - (intOf i).toNat)
      case atStart => exact ⟨0, by omega, rfl, hid (Below.refl _ _)⟩
      case round =>
        obtain ⟨r, hr, rfl, hV⟩ := hrel
        have hKr := hid (hK5.out.step hV.out)
        have hrr := hid (hr5.out.step hV.out)
        have hBr := hid (hB5.out.trans (hV.out.mono hB5.out.size))
        have hRr := hid (hR5.out.stp hV.out)
        have hsr := hid (hs5.out.stp hV.out)
        obtain ⟨d0, d1, d2⟩ := hKr.out.tri
        by_cases hlt : r < 5
        · obtain ⟨h, hh⟩ : ∃ h, hasB G (r : Int) = h := ⟨_, rfl⟩
          replace hh := hid hh
          go_wp2_with fail
          refine (TxnGroups_iasL hG.out hkg.out hm.out _ hrr.out).mono ?_
          rintro e w7 ⟨A7, c7, rfl, hX7, hb7⟩
          have hV7 := hid (hV.out.trans (hb7.mono hV.out.size))
          have hR7 := hid (hRr.out.stp hb7)
          have hs7 := hid (hsr.out.stp hb7)
          replace hX7 := hid hX7
          clear hb7 d0 d1 d2
          go_wp2_with fail
          refine (hasInt_asL hh.out _ hX7.out (by omega)).mono ?_
          rintro e w8 ⟨rfl, rfl⟩
          cases h with
          | true =>
            go_wp2
            go_roundw
            case rel => exact ⟨r + 1, by omega, by go_num, hV7⟩
            case measure => simp [intOf]; omega
          | false =>
            obtain ⟨P, hP⟩ : ∃ P, partR O (r : Int) = P := ⟨_, rfl⟩
            obtain ⟨kp, hkp⟩ : ∃ k, P.length = k := ⟨_, rfl⟩
            have hkp3 : kp ≤ 3 := by rw [← hkp, ← hP]; exact part_len _ _
            have hP2 := hid (show partR zs (r : Int) = P by rw [← hP]; exact (hkeep.out r (by omega) (by omega) hh.out).symm)
            replace hP := hid hP
            replace hkp := hid hkp
            go_wp2_with fail
            refine (StorePart_iasL _ hP.out hkp.out _ hR7.out (by omega)).mono ?_
            rintro e w9 ⟨A9, c9, rfl, hX9, hb9⟩
            have hV9 := hid (hV7.out.trans (hb9.mono hV7.out.size))
            have hs9 := hid (hs7.out.stp hb9)
            replace hX9 := hid hX9
            clear hb9
            go_wp2_with fail
            refine (StorePart_iasL _ hP2.out hkp.out _ hs9.out (by omega)).mono ?_
            rintro e wa ⟨Aa, ca, rfl, hXa, hba⟩
            have hVa := hid (hV9.out.trans (hba.mono hV9.out.size))
            have hX9a := hid (hX9.out.stp hba)
            replace hXa := hid hXa
            clear hba
            go_wp2_with fail
            refine (sameInts_eq rfl _ hX9a.out hXa.out (by omega) (by omega)).mono ?_
            rintro e wb ⟨rfl, hbb⟩
            have hVb := hid (hVa.out.trans (hbb.mono hVa.out.size))
            clear hbb
            go_wp2
            go_roundw
            case rel => exact ⟨r + 1, by omega, by go_num, hVb⟩
            case measure => simp [intOf]; omega
        · obtain rfl : r = 5 := by omega
          go_wp2
          go_ret
          exact ⟨rfl, hBr.out⟩
  · have hbig' : (1048576 : Int) < (len : Int) := by omega
    go_enter Try.func7, Try.ntmps7
    go_wp2
    go_ret
    exact ⟨rfl, Below.refl _ _⟩
end Go.Proofs.Yteagmkhpfmiaiaa
