/-
  The walk of the law FnTraceCyclePair. No condition.
-/
import Derived.Test.YtdhafappclcijaaTlM
namespace Go.Proofs.Ytdhafappclcijaa
open Go.RowKit
set_option linter.unusedVariables false
set_option linter.unusedSimpArgs false

set_option maxRecDepth 100000 in
set_option maxHeartbeats 8000000 in
theorem lawTraceCyclePair {a : Option Addr} {len cap : Nat} {cs : List Int} (w : World) (h : RowIs .u8 w a len cap cs) :
    Calls Try.prog 7 #[.slice a len cap] w fun e w' => e = .returned (.bool true) ∧ Below w.heap.size w w' := by
  have h' := hid h
  clear h
  by_cases hbig : len ≤ 1048576
  · go_enter Try.func7, Try.ntmps7
    go_wp2_with fail
    refine (DrawTraceOrder_any w h'.out).mono ?_
    rintro e w1 ⟨v, zss, rfl, hT, hl1, hsh, hb1⟩
    have hB1 := hid hb1
    have hs1 := hb1.size
    have hS := hid hsh.sht
    have hS10 := hid hsh
    obtain ⟨A, n, c, rfl, hn, hnc, hc⟩ := hT.atT
    have hT1 := hid hT
    rw [hn] at hl1
    have hn' := hid hn
    clear hT hsh hb1 hn
    obtain ⟨K, hK⟩ : ∃ K, okT zss = K := ⟨_, rfl⟩
    obtain ⟨O, hO⟩ : ∃ O, toR zss = O := ⟨_, rfl⟩
    obtain ⟨m, hm⟩ : ∃ m, O.length = m := ⟨_, rfl⟩
    have hm12 : m ≤ 12 := by rw [← hm, ← hO]; exact toR_len
    have hK := hid hK
    have hO := hid hO
    have hm := hid hm
    go_wp2_with fail
    refine (TraceOrder_isI hK.out hO.out hm.out w1 hT1.out.rdT (by omega) hS.out).mono ?_
    rintro e w2 ⟨A2, c2, rfl, ho, hb, hoc, hoc2⟩
    have lo_2 := hid (Lv.ofI ho)
    have hT2 := hid (hT1.out.below hb)
    have hB2 := hid (hB1.out.trans (hb.mono hs1))
    have hs2 := hb.size
    clear ho hb hT1 hB1
    go_wp2_with fail
    refine (TraceOrder_isS hK.out hO.out hm.out w2 hT2.out.rdT (by omega) hS.out).mono ?_
    rintro e w3 ⟨A3, c3, rfl, hp, hb, hpc, hpc2⟩
    have lp_3 := hid (Lv.ofI hp)
    have lo_3 := hid (lo_2.out.step hb)
    have hT3 := hid (hT2.out.below hb)
    have hB3 := hid (hB2.out.trans (hb.mono (by omega)))
    have hs3 := hb.size
    clear hp hb hT2 hB2 lo_2
    have hKK : (K != K) = false := by cases K <;> rfl
    have hKE : (K == K) = true := by cases K <;> rfl
    go_wp2_with fail
    refine (sameInts_self w3 lo_3.out.at_ lp_3.out.at_ (by omega)).mono ?_
    rintro e w4 ⟨rfl, hq⟩
    have lo_4 := hid (lo_3.out.quiet hq)
    have lp_4 := hid (lp_3.out.quiet hq)
    have hT4 := hid (hT3.out.quiet hq)
    have hB4 := hid (hB3.out.trans (hq.below _))
    have hs4 : w3.heap.size ≤ w4.heap.size := Nat.le_of_eq hq.size.symm
    clear hq lo_3 lp_3 hT3 hB3
    cases K with
    | false =>
      go_wp2_with fail
      refine (sameInts_self w4 lo_4.out.at_ lp_4.out.at_ (by omega)).mono ?_
      rintro e w5 ⟨rfl, hq⟩
      have lo_5 := hid (lo_4.out.quiet hq)
      have lp_5 := hid (lp_4.out.quiet hq)
      have hT5 := hid (hT4.out.quiet hq)
      have hB5 := hid (hB4.out.trans (hq.below _))
      have hs5 : w4.heap.size ≤ w5.heap.size := Nat.le_of_eq hq.size.symm
      clear hq lo_4 lp_4 hT4 hB4
      go_wp2
      go_ret
      exact ⟨rfl, hB5.out⟩
    | true =>
      have hra := hid hT4.out.rdT
      clear lo_4 lp_4 hT4
      go_wp2
      go_loopw [8] (fun i wr => ∃ k : Nat, k ≤ n ∧ i = .int .i64 k ∧ Hid (Qt w4 wr)) (fun i _ => n - (intOf i).toNat)
      case atStart => exact ⟨0, Nat.zero_le _, rfl, hid (Qt.refl _)⟩
      case round =>
        obtain ⟨i, hi, rfl, hq⟩ := hrel
        by_cases hlt : i < n
        · obtain ⟨ad, Ai, mi, ci, ti, rfl, hti, hmi, -, hci, hri, hmc, hcc⟩ := hra.out.at_ hlt
          have hci := hid hci
          have x0 : (i : Int) < (n : Int) := by omega
          go_wp2
          go_loopw [9] (fun i wr => ∃ k : Nat, k ≤ n ∧ i = .int .i64 k ∧ Hid (Qt w4 wr)) (fun i _ => n - (intOf i).toNat)
          case atStart => exact ⟨0, Nat.zero_le _, rfl, hq⟩
          case round =>
            clear hq
            obtain ⟨k, hk, rfl, hq⟩ := hrel
            by_cases hltk : k < n
            · obtain ⟨ad', Ak, mk, ck, tk, e, htk, hmk, -, hck, hrk, hmck, hcck⟩ := hra.out.at_ hltk
              injection e with e
              subst e
              have hck := hid hck
              have x1 : (k : Int) < (n : Int) := by omega
              have hmk9 : mk < 1099511627776 := by rw [← hmk.out]; exact hS.out _ (List.mem_of_getElem? htk.out)
              go_wp2
              go_loopw [10] (fun i wr => ∃ k : Nat, k ≤ mi ∧ i = .int .i64 k ∧ Hid (Qt w4 wr)) (fun i _ => mi - (intOf i).toNat)
              case atStart => exact ⟨0, Nat.zero_le _, rfl, hq⟩
              case round =>
                clear hq
                obtain ⟨x, hx, rfl, hq⟩ := hrel
                have c1 := hq.out.cellT hci.out
                by_cases hltx : x < mi
                · have x2 : (x : Int) < (mi : Int) := by omega
                  go_wp2
                  go_loopw [11] (fun i wr => ∃ k : Nat, k ≤ x ∧ i = .int .i64 k ∧ Hid (Qt w4 wr)) (fun i _ => x - (intOf i).toNat)
                  case atStart => exact ⟨0, Nat.zero_le _, rfl, hq⟩
                  case round =>
                    clear hq c1
                    obtain ⟨y, hy, rfl, hq⟩ := hrel
                    by_cases hlty : y < x
                    · have c1 := hq.out.cellT hci.out
                      have c2 := hq.out.cellT hck.out
                      obtain ⟨adi, zx, rfl, hzx, hcx⟩ := RdI.at' (hq.out.reads hri.out) hltx
                      obtain ⟨adi2, zy, e2, hzy, hcy⟩ := RdI.at' (hq.out.reads hri.out) (k := y) (by omega)
                      injection e2 with e2
                      subst e2
                      have hbe := hid (pair_no hK.out (List.mem_of_getElem? hti.out) (List.mem_of_getElem? htk.out) hlty (getD_of (by rw [hmi.out]; omega) hzx.out) (getD_of (by rw [hmi.out]; omega) hzy.out))
                      have hqk := hid (hq.out.reads hrk.out)
                      have x3 : (y : Int) < (x : Int) := by omega
                      have x4 : (y : Int) < (mi : Int) := by omega
                      go_wp2
                      go_quiet ((go_at_call 25; with_reducible exact same_call (before_asT hbe.out _ (Reads.drewN hqk.out _) hmk9 hmck hcck)))
                      go_wp2
                      go_roundw
                      case rel => exact ⟨y + 1, by omega, by go_num, hid (hq.out.drewN _)⟩
                      case measure => simp [intOf]; omega
                    · have x3 : ¬ (y : Int) < (x : Int) := by omega
                      go_wp2
                      go_roundw
                      case rel => exact ⟨x + 1, by omega, by go_num, hq⟩
                      case measure => simp [intOf]; omega
                · have x2 : ¬ (x : Int) < (mi : Int) := by omega
                  go_wp2
                  go_roundw
                  case rel => exact ⟨k + 1, by omega, by go_num, hq⟩
                  case measure => simp [intOf]; omega
            · have x1 : ¬ (k : Int) < (n : Int) := by omega
              go_wp2
              go_roundw
              case rel => exact ⟨i + 1, by omega, by go_num, hq⟩
              case measure => simp [intOf]; omega
        · have x0 : ¬ (i : Int) < (n : Int) := by omega
          go_wp2
          go_ret
          exact ⟨rfl, hB4.out.trans (hq.out.below _)⟩
  · go_enter Try.func7, Try.ntmps7
    go_wp2
    go_ret
    exact ⟨rfl, Below.refl _ _⟩
end Go.Proofs.Ytdhafappclcijaa
