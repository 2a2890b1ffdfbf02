/-
  The walk of the law FnTxnApply. No condition.
-/
import Derived.Test.YteagmkhpfmiaiaaSwM
namespace Go.Proofs.Yteagmkhpfmiaiaa
open Go.RowKit
set_option linter.unusedVariables false
set_option linter.unusedSimpArgs false

set_option maxRecDepth 100000 in
set_option maxHeartbeats 16000000 in
theorem lawTxnApply {a : Option Addr} {len cap : Nat} {cs : List Int} (w : World) (h : RowIs .u8 w a len cap cs) :
    Calls Try.prog 3 #[.slice a len cap] w fun e w' => e = .returned (.bool true) ∧ Below w.heap.size w w' := by
  have h' := hid h
  clear h
  by_cases hbig : len ≤ 1048576
  · go_enter Try.func3, Try.ntmps3
    go_wp2_with fail
    refine (DrawTxnApply_any w h'.out).mono ?_
    rintro e w1 ⟨A, A1, A2, c, c1, c2, n, n1, n2, zs, t, rfl, hs1, hn, hin, hr1, hl1, hl2, hb⟩
    have hB1 := hid hb
    have hz1 := hb.size
    replace hs1 := hid hs1
    replace hr1 := hid hr1
    replace hin := hid hin
    clear hb
    go_upto_region 4 with (fail)
    obtain ⟨m, hm⟩ : ∃ m, t.need = m := ⟨_, rfl⟩
    rw [hm]
    replace hm := hid hm
    obtain ⟨u0, hu0⟩ : ∃ W, w1.alloc (.cells #[.slice A1 n1 c1, .int .i64 m, .slice A2 n2 c2] 26) = W := ⟨_, rfl⟩
    rw [hu0]
    have hbb : Below w1.heap.size w1 u0 := by rw [← hu0]; exact below1 _ _
    have hK2 := hid (show Cs u0 w1.heap.size 26 #[.slice A1 n1 c1, .int .i64 m, .slice A2 n2 c2] by rw [← hu0]; exact Cs.new _ _ _)
    have hB2 := hid (hB1.out.trans (hbb.mono hz1))
    have hs2 := hid (hs1.out.stp hbb)
    have hr2 := hid (hr1.out.step hbb)
    obtain ⟨xb, hxb⟩ : ∃ b, w1.heap.size = b := ⟨_, rfl⟩
    rw [hxb] at hK2
    try rw [hxb]
    clear hbb hu0 hxb hz1 hB1 hr1 hs1
    obtain ⟨O, hO⟩ : ∃ O, appS zs t = O := ⟨_, rfl⟩
    obtain ⟨q, hq⟩ : ∃ q, appB zs t = q := ⟨_, rfl⟩
    obtain ⟨k, hk⟩ : ∃ k, O.length = k := ⟨_, rfl⟩
    have hk15 : k ≤ 15 := by rw [← hk, ← hO]; exact app_len
    replace hO := hid hO
    replace hq := hid hq
    replace hk := hid hk
    obtain ⟨d0, d1, d2⟩ := hK2.out.tri
    go_wp2_with fail
    refine (TxnApply_iasL hO.out hq.out hk.out hm.out _ hs2.out (by omega) hr2.out).mono ?_
    rintro e w3 ⟨A5, c5, rfl, hR3, hb3⟩
    have hK3 := hid (hK2.out.step hb3)
    have hB3 := hid (hB2.out.trans (hb3.mono hB2.out.size))
    have hs3 := hid (hs2.out.stp hb3)
    have hr3 := hid (hr2.out.step hb3)
    replace hR3 := hid hR3
    clear hb3 hK2 hB2 hr2 hs2 d0 d1 d2
    obtain ⟨d0, d1, d2⟩ := hK3.out.tri
    go_wp2_with fail
    refine (TxnApply_asL hO.out hq.out hk.out hm.out _ hs3.out (by omega) hr3.out).mono ?_
    rintro e w4 ⟨A6, c6, rfl, hW4, hb4⟩
    have hK4 := hid (hK3.out.step hb4)
    have hB4 := hid (hB3.out.trans (hb4.mono hB3.out.size))
    have hs4 := hid (hs3.out.stp hb4)
    have hr4 := hid (hr3.out.step hb4)
    have hR4 := hid (hR3.out.stp hb4)
    replace hW4 := hid hW4
    clear hb4 hK3 hB3 hr3 hs3 hR3 d0 d1 d2
    obtain ⟨d0, d1, d2⟩ := hK4.out.tri
    go_wp2_with fail
    refine (sameInts_eq rfl _ hR4.out hW4.out (by omega) (by omega)).mono ?_
    rintro e w5 ⟨rfl, hb5⟩
    have hK5 := hid (hK4.out.step hb5)
    have hB5 := hid (hB4.out.trans (hb5.mono hB4.out.size))
    have hs5 := hid (hs4.out.stp hb5)
    have hr5 := hid (hr4.out.step hb5)
    have hR5 := hid (hR4.out.stp hb5)
    have hW5 := hid (hW4.out.stp hb5)
    clear hb5 hK4 hB4 hr4 hs4 hR4 hW4 d0 d1 d2
    obtain ⟨d0, d1, d2⟩ := hK5.out.tri
    cases q with
    | false =>
      go_wp2_with fail
      refine (sameInts_eq rfl _ hR5.out hW5.out (by omega) (by omega)).mono ?_
      rintro e w6 ⟨rfl, hb6⟩
      have hB6 := hid (hB5.out.trans (hb6.mono hB5.out.size))
      clear hb6
      go_wp2
      go_ret
      exact ⟨rfl, hB6.out⟩
    | true =>
      obtain ⟨hv, ht, he, -⟩ := app_yes hq.out
      have hz15 := hid (vst_len hv)
      have hn15 : n = 15 := by rw [← hs5.out.len]; exact hz15.out
      subst hn15
      have hk15' : k = 15 := by rw [← hk.out, ← hO.out, he]; exact tab_len _
      subst hk15'
      have ht' := hid ht
      have hv' := hid hv
      have hvO := hid (show vst O = true by rw [← hO.out]; exact app_valid hq.out)
      have hat := hid (show ∀ r : Nat, r < 15 → O.getD r 0 = zs.getD r 0 + dlt t.puts r from fun r hr => by rw [← hO.out]; exact app_at hq.out hr)
      have hlp := hid hr5.out.p.len
      have n15 := hid (show n2 ≤ 15 by have := ht.plen; have := hr5.out.p.len; omega)
      obtain ⟨ad, rfl, hadb, hadc⟩ := hs5.out.addr (by omega)
      obtain ⟨bd, rfl, hbdb, hbdc⟩ := hR5.out.addr (by omega)
      replace hadc := hid hadc
      replace hbdc := hid hbdc
      replace hadb := hid hadb
      replace hbdb := hid hbdb
      clear hv ht he d0 d1 d2
      go_wp2
      go_loopw [9] (fun i wr => ∃ (r : Nat), r ≤ 15 ∧ i = .int .i64 (r : Int) ∧ Hid (Below w5.heap.size w5 wr)) (fun i _ => 15 - (intOf i).toNat)
      case atStart => exact ⟨0, by omega, rfl, hid (Below.refl _ _)⟩
      case round =>
        obtain ⟨r, hr, rfl, hV⟩ := hrel
        have hKr := hid (hK5.out.step hV.out)
        have hrr := hid (hr5.out.step hV.out)
        have hBr := hid (hB5.out.trans (hV.out.mono hB5.out.size))
        have hRr := hid (hR5.out.stp hV.out)
        obtain ⟨d0, d1, d2⟩ := hKr.out.tri
        by_cases hlt : r < 15
        · have ca := cellI hV.out hadb.out hadc.out r hlt
          have cb := cellI hV.out hbdb.out hbdc.out r hlt
          have r0 : (0 : Int) ≤ (r : Int) := by omega
          have r1 : (r : Int) < 15 := by omega
          obtain ⟨wo, hwo⟩ : ∃ W, W = wr := ⟨_, rfl⟩
          subst hwo
          go_wp2
          go_loop [10, 11] (fun d i => ∃ (j : Nat), j ≤ n2 ∧ i = .int .i64 j ∧ d = .int .i64 (dlt (t.puts.take j) r)) (fun _ i => n2 - (intOf i).toNat)
          case atStart => exact ⟨0, Nat.zero_le _, rfl, rfl⟩
          case round =>
            obtain ⟨j, hj, rfl, rfl⟩ := hrel
            by_cases hlt2 : j < n2
            · obtain ⟨b, off, x, y, rfl, hx, hbl, e0, e1⟩ := hrr.out.p.at_ hlt2
              have n15' := n15.out
              by_cases hxr : x = (r : Int)
              · subst hxr
                have hD := hid (dlt_hitN ht'.out.puts hx.out)
                simp only at hD
                go_wp2
                go_round
                case rel => exact ⟨j + 1, by omega, by go_num, by rw [hD.out]⟩
                case measure => simp [intOf]; omega
              · have hxb : (x == (r : Int)) = false := by simpa using hxr
                have hD := hid (dlt_missN (k := (r : Int)) hx.out hxr)
                go_wp2
                go_round
                case rel => exact ⟨j + 1, by omega, by go_num, by rw [hD.out]⟩
                case measure => simp [intOf]; omega
            · obtain rfl : j = n2 := by omega
              have hall : t.puts.take j = t.puts := List.take_of_length_le (by rw [hlp.out]; omega)
              rw [hall]
              have hz := hat.out r hlt
              have b1 := amt_true.1 ((vst_true.1 hv'.out).2 r hlt)
              have b2 := amt_true.1 ((vst_true.1 hvO.out).2 r hlt)
              rw [hz] at cb b2
              obtain ⟨D, hD⟩ : ∃ D, dlt t.puts r = D := ⟨_, rfl⟩
              obtain ⟨Z, hZ⟩ : ∃ Z, zs.getD r 0 = Z := ⟨_, rfl⟩
              rw [hD, hZ] at cb b2
              rw [hZ] at ca b1
              rw [hD]
              clear hall hz hD hZ
              have hw2 : IntKind.i64.wrap (Z + D) = Z + D := IntWalk.i64_in _ (by omega)
              have hne : (Z + D != Z + D) = false := by simp
              go_wp2
              go_quiet (fail)
              go_wp2
              go_roundw
              case rel => exact ⟨r + 1, by omega, by go_num, hid (hV.out.trans (Qt.below ⟨_, rfl⟩ _))⟩
              case measure => simp [intOf]; omega
        · obtain rfl : r = 15 := by omega
          go_wp2_with fail
          refine (StoreValid_impl _ hRr.out (by omega)).mono ?_
          rintro e w7 ⟨rfl, hb7⟩
          have hB7 := hid (hBr.out.trans (hb7.mono hBr.out.size))
          clear hb7
          rw [hvO.out]
          go_wp2
          go_ret
          exact ⟨rfl, hB7.out⟩
  · have hbig' : (1048576 : Int) < (len : Int) := by omega
    go_enter Try.func3, Try.ntmps3
    go_wp2
    go_ret
    exact ⟨rfl, Below.refl _ _⟩
end Go.Proofs.Yteagmkhpfmiaiaa
