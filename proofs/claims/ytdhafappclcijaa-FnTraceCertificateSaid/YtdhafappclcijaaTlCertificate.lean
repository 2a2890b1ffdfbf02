/-
  The walk of the law FnTraceCertificate. No condition.
-/
import Derived.Test.YtdhafappclcijaaTlM
namespace Go.Proofs.Ytdhafappclcijaa
open Go.RowKit
set_option linter.unusedVariables false
set_option linter.unusedSimpArgs false

set_option maxRecDepth 100000 in
set_option maxHeartbeats 8000000 in
theorem lawTraceCertificate {a : Option Addr} {len cap : Nat} {cs : List Int} (w : World) (h : RowIs .u8 w a len cap cs) :
    Calls Try.prog 4 #[.slice a len cap] w fun e w' => e = .returned (.bool true) ∧ Below w.heap.size w w' := by
  have h' := hid h
  clear h
  by_cases hbig : len ≤ 1048576
  · go_enter Try.func4, Try.ntmps4
    go_wp2_with fail
    refine (DrawTraceOrder_any w h'.out).mono ?_
    rintro e w1 ⟨v, zss, rfl, hT, hl1, hsh, hb1⟩
    have hB1 := hid hb1
    have hs1 := hb1.size
    have hS := hid hsh.sht
    have hS10 := hid hsh
    obtain ⟨A, n, c, rfl, hn, hnc, hc⟩ := hT.atT
    have hT1 := hid hT
    rw [hn] at hl1
    have hn' := hid hn
    clear hT hsh hb1 hn
    obtain ⟨K, hK⟩ : ∃ K, okT zss = K := ⟨_, rfl⟩
    obtain ⟨O, hO⟩ : ∃ O, toR zss = O := ⟨_, rfl⟩
    obtain ⟨m, hm⟩ : ∃ m, O.length = m := ⟨_, rfl⟩
    have hm12 : m ≤ 12 := by rw [← hm, ← hO]; exact toR_len
    have hK := hid hK
    have hO := hid hO
    have hm := hid hm
    go_wp2_with fail
    refine (TraceOrder_isI hK.out hO.out hm.out w1 hT1.out.rdT (by omega) hS.out).mono ?_
    rintro e w2 ⟨A2, c2, rfl, ho, hb, hoc, hoc2⟩
    have lo_2 := hid (Lv.ofI ho)
    have hT2 := hid (hT1.out.below hb)
    have hB2 := hid (hB1.out.trans (hb.mono hs1))
    have hs2 := hb.size
    clear ho hb hT1 hB1
    go_wp2_with fail
    refine (TraceOrder_isS hK.out hO.out hm.out w2 hT2.out.rdT (by omega) hS.out).mono ?_
    rintro e w3 ⟨A3, c3, rfl, hp, hb, hpc, hpc2⟩
    have lp_3 := hid (Lv.ofI hp)
    have lo_3 := hid (lo_2.out.step hb)
    have hT3 := hid (hT2.out.below hb)
    have hB3 := hid (hB2.out.trans (hb.mono (by omega)))
    have hs3 := hb.size
    clear hp hb hT2 hB2 lo_2
    have hKK : (K != K) = false := by cases K <;> rfl
    have hKE : (K == K) = true := by cases K <;> rfl
    go_wp2_with fail
    refine (sameInts_self w3 lo_3.out.at_ lp_3.out.at_ (by omega)).mono ?_
    rintro e w4 ⟨rfl, hq⟩
    have lo_4 := hid (lo_3.out.quiet hq)
    have lp_4 := hid (lp_3.out.quiet hq)
    have hT4 := hid (hT3.out.quiet hq)
    have hB4 := hid (hB3.out.trans (hq.below _))
    have hs4 : w3.heap.size ≤ w4.heap.size := Nat.le_of_eq hq.size.symm
    clear hq lo_3 lp_3 hT3 hB3
    cases hV : trsB zss with
    | false =>
      go_wp2_with fail
      refine (TracesValid_as hV w4 hT4.out.rdT (by omega) hS.out).mono ?_
      rintro e w5 ⟨rfl, hq⟩
      have lo_5 := hid (lo_4.out.quiet hq)
      have lp_5 := hid (lp_4.out.quiet hq)
      have hT5 := hid (hT4.out.quiet hq)
      have hB5 := hid (hB4.out.trans (hq.below _))
      have hs5 : w4.heap.size ≤ w5.heap.size := Nat.le_of_eq hq.size.symm
      clear hq
      go_wp2_with fail
      refine (sameInts_self w5 lo_5.out.at_ lp_5.out.at_ (by omega)).mono ?_
      rintro e w6 ⟨rfl, hq⟩
      have lo_6 := hid (lo_5.out.quiet hq)
      have lp_6 := hid (lp_5.out.quiet hq)
      have hT6 := hid (hT5.out.quiet hq)
      have hB6 := hid (hB5.out.trans (hq.below _))
      have hs6 : w5.heap.size ≤ w6.heap.size := Nat.le_of_eq hq.size.symm
      clear hq lo_5 lp_5 hT5 hB5
      go_wp2
      go_ret
      exact ⟨rfl, hB6.out⟩
    | true =>
      obtain ⟨R, hR⟩ : ∃ R, tcR zss = R := ⟨_, rfl⟩
      obtain ⟨r, hr⟩ : ∃ r, R.length = r := ⟨_, rfl⟩
      have hr12 : r ≤ 12 := by rw [← hr, ← hR]; exact tcR_len
      have hcert := hid (show K = decide (r = 0) by
        rw [← hK.out, cert hV, hR, ← hr]
        exact decide_eq_decide.2 List.length_eq_zero_iff.symm)
      have hR := hid hR
      have hr := hid hr
      go_wp2_with fail
      refine (TracesValid_as hV w4 hT4.out.rdT (by omega) hS.out).mono ?_
      rintro e w5 ⟨rfl, hq⟩
      have hT5 := hid (hT4.out.quiet hq)
      have hB5 := hid (hB4.out.trans (hq.below _))
      have hs5 : w4.heap.size ≤ w5.heap.size := Nat.le_of_eq hq.size.symm
      clear hq
      have hV := hid hV
      go_wp2_with fail
      refine (TraceCycle_isI hR.out hr.out w5 hT5.out.rdT (by omega) hS.out).mono ?_
      rintro e w6 ⟨A6, c6, rfl, ho, hb, -, -⟩
      have hB6 := hid (hB5.out.trans (hb.mono (by omega)))
      clear ho hb
      by_cases h0 : r = 0
      · have h0' : ((r : Int) == 0) = true := by simp [h0]
        have hK1 : K = true := by rw [hcert.out]; simp [h0]
        clear hcert h0 hKK hKE hr12
        subst hK1
        go_wp2
        go_ret
        exact ⟨rfl, hB6.out⟩
      · have h0' : ((r : Int) == 0) = false := by simp [h0]
        have hK1 : K = false := by rw [hcert.out]; simp [h0]
        clear hcert h0 hKK hKE hr12
        subst hK1
        go_wp2
        go_ret
        exact ⟨rfl, hB6.out⟩
  · go_enter Try.func4, Try.ntmps4
    go_wp2
    go_ret
    exact ⟨rfl, Below.refl _ _⟩
end Go.Proofs.Ytdhafappclcijaa
