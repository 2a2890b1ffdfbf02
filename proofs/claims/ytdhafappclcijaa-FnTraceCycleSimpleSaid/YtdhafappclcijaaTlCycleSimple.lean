/-
  The walk of the law FnTraceCycleSimple. No condition.
-/
import Derived.Test.YtdhafappclcijaaTlM
namespace Go.Proofs.Ytdhafappclcijaa
open Go.RowKit
set_option linter.unusedVariables false
set_option linter.unusedSimpArgs false

theorem cyc_take {zss : List (List Int)} {O : List Int} (hO : tcR zss = O) {k : Nat} {z z0 : Int} (hz : O[k]? = some z) (h0 : O[0]? = some z0) : hasB (O.take k) z = false ∧ z0 ≤ z := by
  have hne : tcR zss ≠ [] := by rw [hO]; intro e; rw [e] at hz; simp at hz
  obtain ⟨_, hnd, _, hf⟩ := tc_facts hne
  rw [hO] at hnd hf
  refine ⟨hasB_no.2 fun hmem => ?_, hf k z z0 h0 hz⟩
  have h1 := (List.take_sublist (k + 1) O).nodup hnd
  rw [take_snocI hz, List.nodup_append] at h1
  exact h1.2.2 z hmem z (by simp) rfl

set_option maxRecDepth 100000 in
set_option maxHeartbeats 8000000 in
theorem lawTraceCycleSimple {a : Option Addr} {len cap : Nat} {cs : List Int} (w : World) (h : RowIs .u8 w a len cap cs) :
    Calls Try.prog 6 #[.slice a len cap] w fun e w' => e = .returned (.bool true) ∧ Below w.heap.size w w' := by
  have h' := hid h
  clear h
  by_cases hbig : len ≤ 1048576
  · go_enter Try.func6, Try.ntmps6
    go_wp2_with fail
    refine (DrawTraceCycle_any w h'.out).mono ?_
    rintro e w1 ⟨v, zss, rfl, hT, hl1, hsh, hb1⟩
    have hB1 := hid hb1
    have hs1 := hb1.size
    have hS := hid hsh.sht
    have hS10 := hid hsh
    obtain ⟨A, n, c, rfl, hn, hnc, hc⟩ := hT.atT
    have hT1 := hid hT
    rw [hn] at hl1
    have hn' := hid hn
    clear hT hsh hb1 hn
    obtain ⟨O, hO⟩ : ∃ O, tcR zss = O := ⟨_, rfl⟩
    obtain ⟨m, hm⟩ : ∃ m, O.length = m := ⟨_, rfl⟩
    have hm12 : m ≤ 12 := by rw [← hm, ← hO]; exact tcR_len
    have hO := hid hO
    have hm := hid hm
    go_wp2_with fail
    refine (TraceCycle_isI hO.out hm.out w1 hT1.out.rdT (by omega) hS.out).mono ?_
    rintro e w2 ⟨A2, c2, rfl, ho, hb, hoc, hoc2⟩
    have lo_2 := hid (Lv.ofI ho)
    have hT2 := hid (hT1.out.below hb)
    have hB2 := hid (hB1.out.trans (hb.mono hs1))
    have hs2 := hb.size
    clear ho hb hT1 hB1
    go_wp2_with fail
    refine (TraceCycle_isS hO.out hm.out w2 hT2.out.rdT (by omega) hS.out).mono ?_
    rintro e w3 ⟨A3, c3, rfl, hp, hb, hpc, hpc2⟩
    have lp_3 := hid (Lv.ofI hp)
    have lo_3 := hid (lo_2.out.step hb)
    have hT3 := hid (hT2.out.below hb)
    have hB3 := hid (hB2.out.trans (hb.mono (by omega)))
    have hs3 := hb.size
    clear hp hb hT2 hB2 lo_2
    go_wp2_with fail
    refine (sameInts_self w3 lo_3.out.at_ lp_3.out.at_ (by omega)).mono ?_
    rintro e w4 ⟨rfl, hq⟩
    have lo_4 := hid (lo_3.out.quiet hq)
    have lp_4 := hid (lp_3.out.quiet hq)
    have hT4 := hid (hT3.out.quiet hq)
    have hB4 := hid (hB3.out.trans (hq.below _))
    have hs4 : w3.heap.size ≤ w4.heap.size := Nat.le_of_eq hq.size.symm
    clear hq lo_3 lp_3 hT3 hB3
    have hra := hid lo_4.out.at_
    clear lo_4 lp_4 hT4
    go_wp2
    go_loopw [6] (fun i wr => ∃ k : Nat, k ≤ m ∧ i = .int .i64 k ∧ Hid (Qt w4 wr)) (fun i _ => m - (intOf i).toNat)
    case atStart => exact ⟨0, Nat.zero_le _, rfl, hid (Qt.refl _)⟩
    case round =>
      obtain ⟨k, hk, rfl, hq⟩ := hrel
      by_cases hlt : k < m
      · obtain ⟨ad, z, rfl, hz, hcz⟩ := RdI.at' (hq.out.reads hra.out) hlt
        obtain ⟨ad0, z0, e0, hz0, hcz0⟩ := RdI.at' (hq.out.reads hra.out) (k := 0) (by omega)
        injection e0 with e0
        subst e0
        have hzk := getD_of (by rw [hm.out]; exact hlt) hz.out
        have hz00 := getD_of (by rw [hm.out]; omega) hz0.out
        obtain ⟨f1, f2⟩ := cyc_take hO.out hzk hz00
        have f1 := hid f1
        have f2' : ¬ z < z0 := by omega
        have hrk := hid (hq.out.reads (RdI.cutT hra.out (by omega : k ≤ m)))
        have i0 : (0 : Int) ≤ (k : Int) := by omega
        have i1 : (k : Int) < (m : Int) := by omega
        have i2 : k ≤ c2 := by omega
        have i3 : (0 : Int) < (m : Int) := by omega
        have i4 : k < 1099511627776 := by omega
        have i5 : 0 < m := by omega
        have hcz0' : wr.cell? ad = some (.int .i64 z0) := hcz0
        clear hzk hz00 hz hz0 f2
        go_wp2
        go_quiet ((go_at_call 20; exact same_call (hasInt_asT f1.out _ (Reads.drewN hrk.out _) i4)))
        go_wp2
        go_roundw
        case rel => exact ⟨k + 1, by omega, by go_num, hid (hq.out.drewN _)⟩
        case measure => simp [intOf]; omega
      · have i1 : ¬ (k : Int) < (m : Int) := by omega
        go_wp2
        go_ret
        exact ⟨rfl, hB4.out.trans (hq.out.below _)⟩
  · go_enter Try.func6, Try.ntmps6
    go_wp2
    go_ret
    exact ⟨rfl, Below.refl _ _⟩
end Go.Proofs.Ytdhafappclcijaa
