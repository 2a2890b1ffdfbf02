/-
  The walk of the law FnTxnRead. No condition.
-/
import Derived.Test.YteagmkhpfmiaiaaSwL
namespace Go.Proofs.Yteagmkhpfmiaiaa
open Go.RowKit
set_option linter.unusedVariables false
set_option linter.unusedSimpArgs false

set_option maxRecDepth 100000 in
set_option maxHeartbeats 16000000 in
theorem lawTxnRead {a : Option Addr} {len cap : Nat} {cs : List Int} (w : World) (h : RowIs .u8 w a len cap cs) :
    Calls Try.prog 13 #[.slice a len cap] w fun e w' => e = .returned (.bool true) ∧ Below w.heap.size w w' := by
  have h' := hid h
  clear h
  by_cases hbig : len ≤ 1048576
  · go_enter Try.func13, Try.ntmps13
    go_wp2_with fail
    refine (DrawTxnApply_any w h'.out).mono ?_
    rintro e w1 ⟨A, A1, A2, c, c1, c2, n, n1, n2, zs, t, rfl, hs1, hn, hin, hr1, hl1, hl2, hb⟩
    have hB1 := hid hb
    have hz1 := hb.size
    replace hs1 := hid hs1
    replace hr1 := hid hr1
    replace hin := hid hin
    clear hb
    go_upto_region 4 with (fail)
    obtain ⟨m, hm⟩ : ∃ m, t.need = m := ⟨_, rfl⟩
    rw [hm]
    replace hm := hid hm
    obtain ⟨u0, hu0⟩ : ∃ W, w1.alloc (.cells #[.slice A1 n1 c1, .int .i64 m, .slice A2 n2 c2] 26) = W := ⟨_, rfl⟩
    rw [hu0]
    have hbb : Below w1.heap.size w1 u0 := by rw [← hu0]; exact below1 _ _
    have hK2 := hid (show Cs u0 w1.heap.size 26 #[.slice A1 n1 c1, .int .i64 m, .slice A2 n2 c2] by rw [← hu0]; exact Cs.new _ _ _)
    have hB2 := hid (hB1.out.trans (hbb.mono hz1))
    have hs2 := hid (hs1.out.stp hbb)
    have hr2 := hid (hr1.out.step hbb)
    obtain ⟨xb, hxb⟩ : ∃ b, w1.heap.size = b := ⟨_, rfl⟩
    rw [hxb] at hK2
    try rw [hxb]
    clear hbb hu0 hxb hz1 hB1 hr1 hs1
    obtain ⟨O, hO⟩ : ∃ O, appS zs t = O := ⟨_, rfl⟩
    obtain ⟨q, hq⟩ : ∃ q, appB zs t = q := ⟨_, rfl⟩
    obtain ⟨k, hk⟩ : ∃ k, O.length = k := ⟨_, rfl⟩
    have hk15 : k ≤ 15 := by rw [← hk, ← hO]; exact app_len
    replace hO := hid hO
    replace hq := hid hq
    replace hk := hid hk
    obtain ⟨d0, d1, d2⟩ := hK2.out.tri
    go_wp2_with fail
    refine (TxnApply_iasL hO.out hq.out hk.out hm.out _ hs2.out (by omega) hr2.out).mono ?_
    rintro e w3 ⟨A5, c5, rfl, hR3, hb3⟩
    have hK3 := hid (hK2.out.step hb3)
    have hB3 := hid (hB2.out.trans (hb3.mono hB2.out.size))
    have hs3 := hid (hs2.out.stp hb3)
    have hr3 := hid (hr2.out.step hb3)
    replace hR3 := hid hR3
    clear hb3 hK2 hB2 hr2 hs2 d0 d1 d2
    obtain ⟨d0, d1, d2⟩ := hK3.out.tri
    go_wp2_with fail
    refine (TxnApply_asL hO.out hq.out hk.out hm.out _ hs3.out (by omega) hr3.out).mono ?_
    rintro e w4 ⟨A6, c6, rfl, hW4, hb4⟩
    have hK4 := hid (hK3.out.step hb4)
    have hB4 := hid (hB3.out.trans (hb4.mono hB3.out.size))
    have hs4 := hid (hs3.out.stp hb4)
    have hr4 := hid (hr3.out.step hb4)
    have hR4 := hid (hR3.out.stp hb4)
    replace hW4 := hid hW4
    clear hb4 hK3 hB3 hr3 hs3 hR3 d0 d1 d2
    obtain ⟨d0, d1, d2⟩ := hK4.out.tri
    go_wp2_with fail
    refine (sameInts_eq rfl _ hR4.out hW4.out (by omega) (by omega)).mono ?_
    rintro e w5 ⟨rfl, hb5⟩
    have hK5 := hid (hK4.out.step hb5)
    have hB5 := hid (hB4.out.trans (hb5.mono hB4.out.size))
    have hs5 := hid (hs4.out.stp hb5)
    have hr5 := hid (hr4.out.step hb5)
    have hR5 := hid (hR4.out.stp hb5)
    have hW5 := hid (hW4.out.stp hb5)
    clear hb5 hK4 hB4 hr4 hs4 hR4 hW4 d0 d1 d2
    obtain ⟨d0, d1, d2⟩ := hK5.out.tri
    by_cases hk0 : k = 0
    · subst hk0
      go_wp2_with fail
      refine (sameInts_eq rfl _ hR5.out hW5.out (by omega) (by omega)).mono ?_
      rintro e w6 ⟨rfl, hb6⟩
      have hB6 := hid (hB5.out.trans (hb6.mono hB5.out.size))
      clear hb6
      go_wp2
      go_ret
      exact ⟨rfl, hB6.out⟩
    · have hk1 : ((k : Int) == 0) = false := by simp; omega
      by_cases hn0 : n1 = 0
      · subst hn0
        go_wp2_with fail
        refine (sameInts_eq rfl _ hR5.out hW5.out (by omega) (by omega)).mono ?_
        rintro e w6 ⟨rfl, hb6⟩
        have hB6 := hid (hB5.out.trans (hb6.mono hB5.out.size))
        clear hb6
        go_wp2
        go_ret
        exact ⟨rfl, hB6.out⟩
      · have hn01 : ((n1 : Int) == 0) = false := by simp; omega
        obtain ⟨hv, ht, hOe, hqe⟩ := app_know (zs := zs) (t := t) (by rw [hO.out, hk.out]; exact hk0)
        have hz15 := hid (vst_len hv)
        have hn15 : n = 15 := by rw [← hs5.out.len]; exact hz15.out
        subst hn15
        obtain ⟨F, hF⟩ : ∃ F, atS zs = F := ⟨_, rfl⟩
        have hFa := hid (show ∀ k, amt (F k) = true from fun k => by rw [← hF]; exact vst_amt hv)
        have hFg := hid (show ∀ q : Nat, zs.getD q 0 = F (q : Int) from fun q => by rw [← hF]; simp [atS])
        have hF' := hid hF
        have ht' := hid ht
        have hv' := hid hv
        have hqe' := hid hqe
        have hOe' := hid hOe
        have hlr := hid hr5.out.r.len
        have n15 := hid (show n1 ≤ 15 by have := ht.rlen; have := hr5.out.r.len; omega)
        clear hv ht hqe hOe hF
        obtain ⟨hO2, hq2⟩ := app_read hv'.out ht'.out (by rw [hlr.out]; omega)
        rw [hm.out, hF'.out] at hq2
        obtain ⟨q2, hq3⟩ : ∃ q2, decide (m ≤ sumF F t.rd) = q2 := ⟨_, rfl⟩
        rw [hq3] at hq2
        rw [hm.out] at hO2
        replace hO2 := hid hO2
        replace hq2 := hid hq2
        replace hq3 := hid hq3
        have hB6a := hid (below1 w5 (.cells #[.slice A1 n1 c1, .int .i64 m, .slice none 0 0] 26))
        have hU := hid (show Cs (w5.alloc (.cells #[.slice A1 n1 c1, .int .i64 m, .slice none 0 0] 26)) w5.heap.size 26 #[.slice A1 n1 c1, .int .i64 m, .slice none 0 0] from Cs.new _ _ _)
        have hK6 := hid (hK5.out.step hB6a.out)
        have hB6 := hid (hB5.out.trans (hB6a.out.mono hB5.out.size))
        have hs6 := hid (hs5.out.stp hB6a.out)
        have hr6 := hid (hr5.out.step hB6a.out)
        obtain ⟨u0, u1, u2⟩ := hU.out.tri
        go_wp2_with fail
        refine (TxnApply_iasL (t := ⟨t.rd, m, []⟩) hO2.out hq2.out hz15.out rfl _ hs6.out (by omega) ⟨hr6.out.r, RdP.nil_, by omega, by omega⟩).mono ?_
        rintro e w7 ⟨A7, c7, rfl, hX7, hb7⟩
        have hK7 := hid (hK6.out.step hb7)
        have hB7 := hid (hB6.out.trans (hb7.mono hB6.out.size))
        have hs7 := hid (hs6.out.stp hb7)
        have hr7 := hid (hr6.out.step hb7)
        replace hX7 := hid hX7
        clear hb7 hK6 hB6 hs6 hr6 u0 u1 u2 hU hB6a d0 d1 d2 hK5 hB5 hs5 hr5 hR5 hW5
        obtain ⟨d0, d1, d2⟩ := hK7.out.tri
        have hs7' := hs7
        obtain ⟨ad, rfl, hadb, hadc⟩ := hs7.out.addr (by omega)
        replace hadc := hid hadc
        clear hadb
        go_wp2
        go_loop [12, 13] (fun s i => ∃ (j : Nat) (S : Int), j ≤ n1 ∧ i = .int .i64 j ∧ s = .int .i64 S ∧ 0 ≤ S ∧ S ≤ 999 * j ∧ Hid (sumF F (t.rd.take j) = S)) (fun _ i => n1 - (intOf i).toNat)
        case atStart => exact ⟨0, 0, Nat.zero_le _, rfl, rfl, by omega, by omega, hid rfl⟩
        case round =>
          obtain ⟨j, S, hj, rfl, rfl, hS0, hS1, hS⟩ := hrel
          by_cases hlt : j < n1
          · obtain ⟨ar, z, rfl, hz, hc⟩ := RdI.at' hr7.out.r hlt
            have hjl := hid (show j < t.rd.length by rw [hlr.out]; exact hlt)
            have hzr := ht'.out.rd.mem (z := z) (by rw [← hz.out, List.getD_eq_getElem?_getD, List.getElem?_eq_getElem hjl.out]; exact List.getElem_mem hjl.out)
            obtain ⟨r, rfl⟩ := Int.eq_ofNat_of_zero_le hzr.1
            have hr15 : r < 15 := by omega
            have hri : (r : Int) < 15 := by omega
            have hcs := hadc.out r hr15
            have hFr := amt_true.1 (hFa.out r)
            have hN := hid (show sumF F (t.rd.take (j + 1)) = S + F r by rw [take_snocI hjl.out hz.out, sumF_snoc, hS.out])
            rw [hFg.out] at hcs
            obtain ⟨y, hy⟩ : ∃ y, F r = y := ⟨_, rfl⟩
            rw [hy] at hcs hFr hN
            obtain ⟨hy0, hy1⟩ := hFr
            have n15' := n15.out
            clear hzr hy
            go_wp2
            go_round
            case rel => exact ⟨j + 1, S + y, by omega, by go_num, rfl, by omega, by omega, hN⟩
            case measure => simp [intOf]; omega
          · have hSf := hid (show sumF F t.rd = S by
              have e := hS.out
              rw [List.take_of_length_le (by rw [hlr.out]; omega)] at e
              exact e)
            go_wp2_with fail
            refine (sameInts_eq rfl _ hX7.out hs7.out (by omega) (by omega)).mono ?_
            rintro e w8 ⟨rfl, hb8⟩
            have hK8 := hid (hK7.out.step hb8)
            have hB8 := hid (hB7.out.trans (hb8.mono hB7.out.size))
            clear d0 d1 d2
            obtain ⟨d0, d1, d2⟩ := hK8.out.tri
            by_cases hms : m ≤ S
            · have e : q2 = true := by rw [← hq3.out, hSf.out]; simpa using hms
              subst e
              go_wp2
              go_ret
              exact ⟨rfl, hB8.out⟩
            · have e : q2 = false := by rw [← hq3.out, hSf.out]; simpa using hms
              subst e
              go_wp2
              go_ret
              refine ⟨?_, hB8.out⟩
              show Ending.returned (.bool (!decide (m ≤ S))) = _
              rw [show decide (m ≤ S) = false by simpa using hms]
              rfl
  · have hbig' : (1048576 : Int) < (len : Int) := by omega
    go_enter Try.func13, Try.ntmps13
    go_wp2
    go_ret
    exact ⟨rfl, Below.refl _ _⟩
end Go.Proofs.Yteagmkhpfmiaiaa
