/-
  The walk of the law FnTraceAgain. No condition.
-/
import Derived.Test.YtdhafappclcijaaTlM
import Derived.Test.YtdhafappclcijaaTlN
namespace Go.Proofs.Ytdhafappclcijaa
open Go.RowKit
set_option linter.unusedVariables false
set_option linter.unusedSimpArgs false

set_option maxRecDepth 100000 in
set_option maxHeartbeats 8000000 in
theorem lawTraceAgain {a : Option Addr} {len cap : Nat} {cs : List Int} (w : World) (h : RowIs .u8 w a len cap cs) :
    Calls Try.prog 10 #[.slice a len cap] w fun e w' => e = .returned (.bool true) ∧ Below w.heap.size w w' := by
  have h' := hid h
  clear h
  by_cases hbig : len ≤ 1048576
  · go_enter Try.func10, Try.ntmps10
    go_wp2_with fail
    refine (DrawTraceOrder_any w h'.out).mono ?_
    rintro e w1 ⟨v, zss, rfl, hT, hl1, hsh, hb1⟩
    have hB1 := hid hb1
    have hs1 := hb1.size
    have hS := hid hsh.sht
    have hS10 := hid hsh
    obtain ⟨A, n, c, rfl, hn, hnc, hc⟩ := hT.atT
    have hT1 := hid hT
    rw [hn] at hl1
    have hn' := hid hn
    clear hT hsh hb1 hn
    obtain ⟨K, hK⟩ : ∃ K, okT zss = K := ⟨_, rfl⟩
    obtain ⟨O, hO⟩ : ∃ O, toR zss = O := ⟨_, rfl⟩
    obtain ⟨m, hm⟩ : ∃ m, O.length = m := ⟨_, rfl⟩
    have hm12 : m ≤ 12 := by rw [← hm, ← hO]; exact toR_len
    have hK := hid hK
    have hO := hid hO
    have hm := hid hm
    go_wp2_with fail
    refine (TraceOrder_isI hK.out hO.out hm.out w1 hT1.out.rdT (by omega) hS.out).mono ?_
    rintro e w2 ⟨A2, c2, rfl, ho, hb, hoc, hoc2⟩
    have lo_2 := hid (Lv.ofI ho)
    have hT2 := hid (hT1.out.below hb)
    have hB2 := hid (hB1.out.trans (hb.mono hs1))
    have hs2 := hb.size
    clear ho hb hT1 hB1
    go_wp2_with fail
    refine (TraceOrder_isS hK.out hO.out hm.out w2 hT2.out.rdT (by omega) hS.out).mono ?_
    rintro e w3 ⟨A3, c3, rfl, hp, hb, hpc, hpc2⟩
    have lp_3 := hid (Lv.ofI hp)
    have lo_3 := hid (lo_2.out.step hb)
    have hT3 := hid (hT2.out.below hb)
    have hB3 := hid (hB2.out.trans (hb.mono (by omega)))
    have hs3 := hb.size
    clear hp hb hT2 hB2 lo_2
    have hKK : (K != K) = false := by cases K <;> rfl
    have hKE : (K == K) = true := by cases K <;> rfl
    go_wp2_with fail
    refine (sameInts_self w3 lo_3.out.at_ lp_3.out.at_ (by omega)).mono ?_
    rintro e w4 ⟨rfl, hq⟩
    have lo_4 := hid (lo_3.out.quiet hq)
    have lp_4 := hid (lp_3.out.quiet hq)
    have hT4 := hid (hT3.out.quiet hq)
    have hB4 := hid (hB3.out.trans (hq.below _))
    have hs4 : w3.heap.size ≤ w4.heap.size := Nat.le_of_eq hq.size.symm
    clear hq lo_3 lp_3 hT3 hB3
    cases K with
    | false =>
      go_wp2_with fail
      refine (sameInts_self w4 lo_4.out.at_ lp_4.out.at_ (by omega)).mono ?_
      rintro e w5 ⟨rfl, hq⟩
      have lo_5 := hid (lo_4.out.quiet hq)
      have lp_5 := hid (lp_4.out.quiet hq)
      have hT5 := hid (hT4.out.quiet hq)
      have hB5 := hid (hB4.out.trans (hq.below _))
      have hs5 : w4.heap.size ≤ w5.heap.size := Nat.le_of_eq hq.size.symm
      clear hq lo_4 lp_4 hT4 hB4
      go_wp2
      go_ret
      exact ⟨rfl, hB5.out⟩
    | true =>
      by_cases h6 : n = 6
      · have h6' : ((n : Int) == 6) = true := by simp [h6]
        clear h6
        go_wp2_with fail
        refine (sameInts_self w4 lo_4.out.at_ lp_4.out.at_ (by omega)).mono ?_
        rintro e w5 ⟨rfl, hq⟩
        have lo_5 := hid (lo_4.out.quiet hq)
        have lp_5 := hid (lp_4.out.quiet hq)
        have hT5 := hid (hT4.out.quiet hq)
        have hB5 := hid (hB4.out.trans (hq.below _))
        have hs5 : w4.heap.size ≤ w5.heap.size := Nat.le_of_eq hq.size.symm
        clear hq lo_4 lp_4 hT4 hB4
        go_wp2
        go_ret
        exact ⟨rfl, hB5.out⟩
      · have h6' : ((n : Int) == 6) = false := by simp; omega
        have hag := again_same hK.out (by rw [hn'.out]; exact h6)
        have hOe : O = ordT zss := by rw [← hO.out, toR, if_pos hK.out]
        rw [← hOe] at hag
        have hA1 := hid hag.1
        have hA2 := hid (show toR (zss ++ [O]) = O by rw [toR, if_pos hag.1]; exact hag.2)
        have hlen : (zss ++ [O]).length = n + 1 := by simp [hn'.out]
        have hE := hid (OwA.empty_lit w4)
        have hR := hid (RdT.alloc hT4.out.rdT (Nat.le_refl _) (.cells #[] 25))
        have hO4 := hid (Reads.alloc lo_4.out.at_ (Nat.le_refl _) (.cells #[] 25))
        have hsz : w4.heap.size ≤ (w4.alloc (.cells #[] 25)).heap.size := by simp
        have b4 := hid ((Below.refl w4.heap.size w4).alloc (Nat.le_refl _) (.cells #[] 25))
        have hsz' := hid hsz
        clear hag hOe hsz h6
        go_wp2_with (at_builtin; first
          | (refine wpList_appA rfl (.tmp 52) (.tmp 53) rfl (B := w4.heap.size) (xss := []) (yss := zss) rfl rfl hE.out hR.out hsz'.out (by simp; omega) ?_; intro v5 w5 hA5 hb5; have hR5 := Reads.below hO4.out hb5; have hz5 : w4.heap.size ≤ w5.heap.size := Nat.le_trans hsz'.out hb5.size)
          | (refine wpList_appA1 rfl (.tmp 54) (.tmp 56) rfl rfl rfl hA5 hR5 hoc hoc2 hz5 (by simp [hn'.out]; omega) ?_; intro v6 w6 hA6 hb6))
        have hb46 := hid (b4.out.trans (hb5.trans hb6))
        rw [List.nil_append] at hA6
        have hz6 : w4.heap.size ≤ w6.heap.size := hb46.out.size
        obtain ⟨A6, c6, rfl, hr6, -, -⟩ := hA6.form hz6
        rw [hlen] at hr6
        have hr6 := hid hr6
        have lo_6 := hid (lo_4.out.step hb46.out)
        have hB6 := hid (hB4.out.trans (hb46.out.mono (by omega)))
        have hS6 := hid (show ShT (zss ++ [O]) from fun t ht => by
          rcases List.mem_append.1 ht with ht | ht
          · exact hS.out t ht
          · simp at ht; subst ht; rw [hm.out]; omega)
        clear hA5 hb5 hR5 hA6 hb6 lo_4 lp_4 hT4 hE hR hO4 b4
        rw [hlen]
        go_wp2_with fail
        refine (TraceOrder_isI hA1.out hA2.out hm.out w6 hr6.out (by omega) hS6.out).mono ?_
        rintro e w7 ⟨A7, c7, rfl, ho, hb, -, -⟩
        have lx_7 := hid (Lv.ofI ho)
        have lo_7 := hid (lo_6.out.step hb)
        have hB7 := hid (hB6.out.trans (hb.mono (by omega)))
        clear ho hb lo_6 hB6 hr6
        go_wp2_with fail
        refine (sameInts_self w7 lx_7.out.at_ lo_7.out.at_ (by omega)).mono ?_
        rintro e w8 ⟨rfl, hq⟩
        go_wp2
        go_ret
        exact ⟨rfl, hB7.out.trans (hq.below _)⟩
  · go_enter Try.func10, Try.ntmps10
    go_wp2
    go_ret
    exact ⟨rfl, Below.refl _ _⟩
end Go.Proofs.Ytdhafappclcijaa
