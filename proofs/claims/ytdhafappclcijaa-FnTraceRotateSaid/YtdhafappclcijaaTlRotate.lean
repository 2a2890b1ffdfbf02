/-
  The walk of the law FnTraceRotate. No condition.
-/
import Derived.Test.YtdhafappclcijaaTlM
import Derived.Test.YtdhafappclcijaaTlN
namespace Go.Proofs.Ytdhafappclcijaa
open Go.RowKit
set_option linter.unusedVariables false
set_option linter.unusedSimpArgs false

set_option maxRecDepth 100000 in
set_option maxHeartbeats 8000000 in
theorem lawTraceRotate {a : Option Addr} {len cap : Nat} {cs : List Int} (w : World) (h : RowIs .u8 w a len cap cs) :
    Calls Try.prog 13 #[.slice a len cap] w fun e w' => e = .returned (.bool true) ∧ Below w.heap.size w w' := by
  have h' := hid h
  clear h
  by_cases hbig : len ≤ 1048576
  · go_enter Try.func13, Try.ntmps13
    go_wp2_with fail
    refine (DrawTraceOrder_any w h'.out).mono ?_
    rintro e w1 ⟨v, zss, rfl, hT, hl1, hsh, hb1⟩
    have hB1 := hid hb1
    have hs1 := hb1.size
    have hS := hid hsh.sht
    have hS10 := hid hsh
    obtain ⟨A, n, c, rfl, hn, hnc, hc⟩ := hT.atT
    have hT1 := hid hT
    rw [hn] at hl1
    have hn' := hid hn
    clear hT hsh hb1 hn
    obtain ⟨K, hK⟩ : ∃ K, okT zss = K := ⟨_, rfl⟩
    obtain ⟨O, hO⟩ : ∃ O, toR zss = O := ⟨_, rfl⟩
    obtain ⟨m, hm⟩ : ∃ m, O.length = m := ⟨_, rfl⟩
    have hm12 : m ≤ 12 := by rw [← hm, ← hO]; exact toR_len
    have hK := hid hK
    have hO := hid hO
    have hm := hid hm
    go_wp2_with fail
    refine (TraceOrder_isI hK.out hO.out hm.out w1 hT1.out.rdT (by omega) hS.out).mono ?_
    rintro e w2 ⟨A2, c2, rfl, ho, hb, hoc, hoc2⟩
    have lo_2 := hid (Lv.ofI ho)
    have hT2 := hid (hT1.out.below hb)
    have hB2 := hid (hB1.out.trans (hb.mono hs1))
    have hs2 := hb.size
    clear ho hb hT1 hB1
    go_wp2_with fail
    refine (TraceOrder_isS hK.out hO.out hm.out w2 hT2.out.rdT (by omega) hS.out).mono ?_
    rintro e w3 ⟨A3, c3, rfl, hp, hb, hpc, hpc2⟩
    have lp_3 := hid (Lv.ofI hp)
    have lo_3 := hid (lo_2.out.step hb)
    have hT3 := hid (hT2.out.below hb)
    have hB3 := hid (hB2.out.trans (hb.mono (by omega)))
    have hs3 := hb.size
    clear hp hb hT2 hB2 lo_2
    have hKK : (K != K) = false := by cases K <;> rfl
    have hKE : (K == K) = true := by cases K <;> rfl
    go_wp2_with fail
    refine (sameInts_self w3 lo_3.out.at_ lp_3.out.at_ (by omega)).mono ?_
    rintro e w4 ⟨rfl, hq⟩
    have lo_4 := hid (lo_3.out.quiet hq)
    have lp_4 := hid (lp_3.out.quiet hq)
    have hT4 := hid (hT3.out.quiet hq)
    have hB4 := hid (hB3.out.trans (hq.below _))
    have hs4 : w3.heap.size ≤ w4.heap.size := Nat.le_of_eq hq.size.symm
    clear hq lo_3 lp_3 hT3 hB3
    cases hV : trsB zss with
    | false =>
      go_wp2_with fail
      refine (TracesValid_as hV w4 hT4.out.rdT (by omega) hS.out).mono ?_
      rintro e w5 ⟨rfl, hq⟩
      have lo_5 := hid (lo_4.out.quiet hq)
      have lp_5 := hid (lp_4.out.quiet hq)
      have hT5 := hid (hT4.out.quiet hq)
      have hB5 := hid (hB4.out.trans (hq.below _))
      have hs5 : w4.heap.size ≤ w5.heap.size := Nat.le_of_eq hq.size.symm
      clear hq
      go_wp2_with fail
      refine (sameInts_self w5 lo_5.out.at_ lp_5.out.at_ (by omega)).mono ?_
      rintro e w6 ⟨rfl, hq⟩
      have lo_6 := hid (lo_5.out.quiet hq)
      have lp_6 := hid (lp_5.out.quiet hq)
      have hT6 := hid (hT5.out.quiet hq)
      have hB6 := hid (hB5.out.trans (hq.below _))
      have hs6 : w5.heap.size ≤ w6.heap.size := Nat.le_of_eq hq.size.symm
      clear hq lo_5 lp_5 hT5 hB5
      go_wp2
      go_ret
      exact ⟨rfl, hB6.out⟩
    | true =>
      go_wp2_with fail
      refine (TracesValid_as hV w4 hT4.out.rdT (by omega) hS.out).mono ?_
      rintro e w5 ⟨rfl, hq⟩
      have lo_5 := hid (lo_4.out.quiet hq)
      have hT5 := hid (hT4.out.quiet hq)
      have hB5 := hid (hB4.out.trans (hq.below _))
      have hs5 : w4.heap.size ≤ w5.heap.size := Nat.le_of_eq hq.size.symm
      obtain ⟨R, hR⟩ : ∃ R, tcR zss = R := ⟨_, rfl⟩
      obtain ⟨r, hr⟩ : ∃ r, R.length = r := ⟨_, rfl⟩
      have hr12 : r ≤ 12 := by rw [← hr, ← hR]; exact tcR_len
      have hrev := rev_same (ts := zss)
      have hKr := hid (hrev.1.trans hK.out)
      have hOr := hid (show toR zss.reverse = O by rw [← hO.out, toR, toR, hrev.1, hrev.2.1])
      have hRr := hid (hrev.2.2.trans hR)
      have hR := hid hR
      have hr := hid hr
      have hV := hid hV
      have hra := hid (hT5.out.rdT)
      have hE := hid (OwA.empty_lit w5)
      have hbe := hid ((Below.refl w5.heap.size w5).alloc (Nat.le_refl _) (.cells #[] 25))
      have hSr := hid (show ShT zss.reverse from fun t ht => hS.out t (List.mem_reverse.1 ht))
      have hd0 := hid (show (zss.drop n).reverse = [] by rw [List.drop_of_length_le (by rw [hn'.out]; omega)]; rfl)
      clear hq hrev lo_4 lp_4 hT4 hB4
      go_wp2
      go_loopw [8, 9] (fun v i wr => ∃ (k : Nat) (z : Int), k ≤ n ∧ z = (k : Int) - 1 ∧ i = .int .i64 z ∧ Hid (OwA wr w5.heap.size v (zss.drop k).reverse) ∧ Hid (Below w5.heap.size w5 wr)) (fun _ i _ => (intOf i + 1).toNat)
      case atStart => exact ⟨n, _, by omega, rfl, rfl, hid (by rw [hd0.out]; exact hE.out), hbe⟩
      case round =>
        clear hE hbe
        obtain ⟨k, z, hk, hz, rfl, hv, hb⟩ := hrel
        have hwz : w5.heap.size ≤ wr.heap.size := hb.out.size
        rcases Nat.eq_zero_or_pos k with h0 | h0
        · subst h0
          have x1 : ¬ (0 : Int) ≤ z := by omega
          clear hz
          have hv := hid (show OwA wr w5.heap.size _ zss.reverse from hv.out)
          have hlr : zss.reverse.length = n := by rw [List.length_reverse, hn'.out]
          obtain ⟨A8, c8, rfl, -, -, -⟩ := hv.out.form hwz
          have hv := hid hv.out
          rw [hlr] at hv ⊢
          have hr8 : RdT wr wr.heap.size A8 n zss.reverse := by
            obtain ⟨A9, c9, e, h9, -, -⟩ := hv.out.form hwz
            injection e with e1 e2 e3
            rw [hlr] at h9
            rw [e1]; exact h9
          have hr8 := hid hr8
          have lo_6 := hid (lo_5.out.step hb.out)
          have hT6 := hid (hT5.out.below hb.out)
          have hB6 := hid (hB5.out.trans (hb.out.mono (by omega)))
          clear hd0 hra
          go_wp2_with fail
          refine (TraceOrder_isI hKr.out hOr.out hm.out wr hr8.out (by omega) hSr.out).mono ?_
          rintro e w7 ⟨A7, c7, rfl, ho, hb7, -, -⟩
          have lx_7 := hid (Lv.ofI ho)
          have lo_7 := hid (lo_6.out.step hb7)
          have hT7 := hid (hT6.out.below hb7)
          have hr7 := hid (hr8.out.step hb7)
          have hB7 := hid (hB6.out.trans (hb7.mono (by omega)))
          have hs7 := hb7.size
          clear ho hb7 lo_6 hT6 hB6 hr8
          go_wp2_with fail
          refine (sameInts_self w7 lx_7.out.at_ lo_7.out.at_ (by omega)).mono ?_
          rintro e w8 ⟨rfl, hq⟩
          have hT8 := hid (hT7.out.quiet hq)
          have hr8 := hid (show RdT w8 w8.heap.size A8 n zss.reverse from hr7.out.step (hq.below _))
          have hB8 := hid (hB7.out.trans (hq.below _))
          have hs8 : w7.heap.size ≤ w8.heap.size := Nat.le_of_eq hq.size.symm
          clear hq hT7 hr7 hB7
          go_wp2_with fail
          refine (TraceCycle_isI hRr.out hr.out w8 hr8.out (by omega) hSr.out).mono ?_
          rintro e w9 ⟨A9, c9, rfl, ho, hb9, -, -⟩
          have ly_9 := hid (Lv.ofI ho)
          have hT9 := hid (hT8.out.below hb9)
          have hB9 := hid (hB8.out.trans (hb9.mono (by omega)))
          have hs9 := hb9.size
          clear ho hb9 hT8 hr8 hB8
          go_wp2_with fail
          refine (TraceCycle_isI hR.out hr.out w9 hT9.out.rdT (by omega) hS.out).mono ?_
          rintro e w10 ⟨A10, c10, rfl, ho, hb10, -, -⟩
          have lz_10 := hid (Lv.ofI ho)
          have ly_10 := hid (ly_9.out.step hb10)
          have hB10 := hid (hB9.out.trans (hb10.mono (by omega)))
          clear ho hb10 hT9 hB9 ly_9
          go_wp2_with fail
          refine (sameInts_self w10 ly_10.out.at_ lz_10.out.at_ (by omega)).mono ?_
          rintro e w11 ⟨rfl, hq⟩
          go_wp2
          go_ret
          exact ⟨rfl, hB10.out.trans (hq.below _)⟩
        · obtain ⟨j, rfl⟩ : ∃ j, k = j + 1 := ⟨k - 1, by omega⟩
          have hzj : z = (j : Int) := by omega
          subst hzj
          have hjn : j < n := by omega
          clear hz h0
          obtain ⟨ad, Ai, mi, ci, ti, rfl, hti, hmi, -, hci, hri, hmc, hcc⟩ := (hra.out.below hb.out).at_ hjn
          have x0 : (j : Int) < (n : Int) := by omega
          have x1 : (0 : Int) ≤ (j : Int) := by omega
          have hsn := hid (show (zss.drop (j + 1)).reverse ++ [ti] = (zss.drop j).reverse by
            obtain ⟨h1, h2⟩ := List.getElem?_eq_some_iff.1 hti.out
            rw [List.drop_eq_getElem_cons h1, h2, List.reverse_cons])
          have hlen : ((zss.drop (j + 1)).reverse).length < 1099511627775 := by rw [List.length_reverse, List.length_drop, hn'.out]; omega
          go_wp2_with (at_builtin; refine wpList_appA1 rfl (.tmp 57) (.tmp 62) rfl rfl rfl hv.out hri.out hmc hcc hwz hlen ?_; intro v6 w6 hA6 hb6)
          go_roundw
          case rel => exact ⟨j, (j : Int) - 1, by omega, rfl, by go_num, hid (by rw [← hsn.out]; exact hA6), hid (hb.out.trans hb6)⟩
          case measure => simp [intOf]
  · go_enter Try.func13, Try.ntmps13
    go_wp2
    go_ret
    exact ⟨rfl, Below.refl _ _⟩
end Go.Proofs.Ytdhafappclcijaa
