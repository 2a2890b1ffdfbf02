/-
  The walk of the law FnLinkedReason. No condition.
-/
import Derived.Test.YtdahnideolaniaaLawB
import Derived.Test.YtdahnideolaniaaPureE
import Derived.Deep.RegionHeld3
namespace Go.Proofs.Ytdahnideolaniaa
open Go.RowKit

set_option maxHeartbeats 2000000 in
theorem lawLinkedReason {a : Option Addr} {len cap : Nat} {cs : List Int} (w : World) (h : RowIs .u8 w a len cap cs) :
    Calls Try.prog 5 #[.slice a len cap] w fun e w' => e = .returned (.bool true) ∧ Below w.heap.size w w' := by
  have h' := hid h
  clear h
  by_cases hbig : len ≤ 1048576
  · go_enter Try.func5, Try.ntmps5
    go_wp2_with fail
    refine (DrawGroupsLinked_any w h'.out).mono ?_
    rintro e w1 ⟨v, zss, x, rfl, ho, hzl, hsh, hb1⟩
    obtain ⟨A, c, rfl, hr1⟩ := ho.form
    have hr1' := hid hr1
    have hB1 := hid hb1
    have hs1 := hb1.size
    have hsh' := hid hsh.short
    have hsh6 := hid hsh
    clear ho hr1 hb1 hsh
    obtain ⟨R, hR⟩ : ∃ R, linkedR zss x = R := ⟨_, rfl⟩
    have hRl : R.length ≤ 5 := by rw [← hR]; exact linkedR_len zss x
    have hR' := hid hR
    clear hR
    go_wp2_with fail
    refine (GroupsLinked_impl x _ hr1'.out (by omega) hsh'.out).mono ?_
    rw [hR'.out]
    rintro e w2 ⟨v, rfl, ho, hb⟩
    have lg_2 := hid (Lv.ofI ho)
    have hr2 := hid (hr1'.out.step hb)
    have hB2 := hid (hB1.out.trans (hb.mono hs1))
    have hs2 := hB2.out.size
    clear ho hb hB1 hr1'
    obtain ⟨A2, c2, rfl⟩ := lg_2.out.rd
    go_wp2_with fail
    refine (GroupsLinked_spec x _ hr2.out (by omega) hsh'.out).mono ?_
    rw [hR'.out]
    rintro e w3 ⟨v, rfl, ho, hb⟩
    have lp_3 := hid (Lv.ofI ho)
    have lg_3 := hid (lg_2.out.step hb)
    have hr3 := hid (hr2.out.step hb)
    have hB3 := hid (hB2.out.trans (hb.mono hs2))
    have hs3 := hB3.out.size
    clear ho hb hB2 hr2 lg_2
    obtain ⟨A3, c3, rfl⟩ := lp_3.out.rd
    go_wp2_with fail
    refine (sameInts_any _ lg_3.out.at_ lp_3.out.at_ (by omega) (by omega)).mono ?_
    rw [sameB_self]
    rintro e w4 ⟨rfl, hq⟩
    have lg_4 := hid (lg_3.out.quiet hq)
    have lp_4 := hid (lp_3.out.quiet hq)
    have hr4 := hid (hr3.out.stepQ hq)
    have hB4 := hid (hB3.out.trans (hq.below _))
    have hs4 := hB4.out.size
    clear hq hB3 hr3 lg_3 lp_3
    obtain ⟨n, hn⟩ : ∃ n, zss.length = n := ⟨_, rfl⟩
    rw [hn] at hzl
    rw [hn]
    have hr4' := hid (show RdL w4 w4.heap.size A n zss by rw [← hn]; exact hr4.out)
    have hn' := hid hn
    clear hn hr4
    go_wp2
    go_loopw [7] (fun i wr => ∃ k : Nat, k ≤ R.length ∧ i = .int .i64 k ∧ Below w4.heap.size w4 wr) (fun i _ => R.length - (intOf i).toNat)
    case atStart => exact ⟨0, by omega, rfl, Below.refl _ _⟩
    case round =>
      obtain ⟨k, hk, rfl, hbel⟩ := hrel
      obtain ⟨wo, rfl⟩ : ∃ wo : World, wo = wr := ⟨_, rfl⟩
      have hsz := hbel.size
      by_cases hlt : k < R.length
      · have lg_o := hid (lg_4.out.step hbel)
        have hr_o := hid (RdL.step hr4'.out hbel)
        obtain ⟨adR, z, e2, hz, hcR⟩ := RdI.at' lg_o.out.at_ hlt
        subst e2
        have hmem : z ∈ R := by
          rw [← hz.out]
          have : R.getD k 0 = R[k] := by simp [hlt]
          rw [this]; exact List.getElem_mem hlt
        have hfin : foundTo R zss x z n = true := by
          rw [← hR'.out] at hmem ⊢
          rw [← hn'.out]
          exact foundTo_all hmem
        have hfin' := hid hfin
        have hf0 := foundTo_zero R zss x z
        have hf0' := hid hf0
        have hbel' := hid hbel
        have hadR : adR.block < wo.heap.size := by have := World.block_lt_of_cell? wo _ hcR; rwa [block_of_add] at this
        clear hmem hfin hf0 hbel
        go_wp2
        go_loopw [8, 9] (fun f i wi => ∃ j : Nat, j ≤ n ∧ i = .int .i64 j ∧ f = .bool (foundTo R zss x z j) ∧ Below wo.heap.size wo wi) (fun _ i _ => n - (intOf i).toNat)
        case atStart => exact ⟨0, by omega, rfl, by rw [hf0'.out], Below.refl _ _⟩
        case round =>
          obtain ⟨j, hj, rfl, rfl, hbi⟩ := hrel
          by_cases hjn : j < n
          · obtain ⟨ad2, Ai, m, ci, zs, rfl, hzs, hm, hc, hri⟩ := RdL.at' (hr_o.out.below hbi) hjn
            obtain rfl : zs.length = m := hm.out
            have hszi := hbi.size
            have hml : zs.length ≤ 6 := by rw [← hzs.out]; exact hsh6.out j
            have hri' := hid (Reads.more hri hszi)
            have lg_i := hid (lg_o.out.step hbi)
            have hcRi : wr.cell? (adR.add k) = some (.int .i64 z) := (hbi.cell (by rw [block_of_add]; exact hadR)).trans hcR
            have hadB : ad2.block < wr.heap.size := by have := World.block_lt_of_cell? wr _ hc; rwa [block_of_add] at this
            have hadRi : adR.block < wr.heap.size := by omega
            have hfs := hid (foundTo_succ R zss x z j)
            clear hri
            cases hb : foundTo R zss x z j with
            | true =>
              have hb' := hid hb
              clear hb
              go_wp2
              go_quiet (fail)
              go_wp2
              go_roundw
              case rel => exact ⟨j + 1, by omega, by go_num, by rw [hfs.out, hb'.out]; rfl, below_drewN hbi _⟩
              case measure => simp [intOf]; omega
            | false =>
              have hb' := hid hb
              clear hb
              cases hh : hasB zs z with
              | false =>
                have hh' := hid hh
                clear hh
                have hcall : ∀ q : Nat, Calls Try.prog 19 #[.slice Ai zs.length ci, .int .i64 z] (wr.drewN q) fun e w' => e = .returned (.bool false) ∧ wr.drewN q = w' := by
                  intro q
                  have := hasInt_any (c := ci) z (wr.drewN q) (Reads.drewN hri'.out q) (by omega)
                  rw [hh'.out] at this
                  exact this
                have hcall' := hid hcall
                clear hcall
                go_wp2
                go_quiet ((go_at_call 19; exact same_call (hcall'.out _)))
                go_wp2
                go_roundw
                case rel => exact ⟨j + 1, by omega, by go_num, by rw [hfs.out, hb'.out, hzs.out, hh'.out]; rfl, below_drewN hbi _⟩
                case measure => simp [intOf]; omega
              | true =>
                have hh' := hid hh
                clear hh
                obtain ⟨Cm, hCm⟩ : ∃ Cm, commonR R zs = Cm := ⟨_, rfl⟩
                have hCl : Cm.length ≤ 5 := by rw [← hCm]; have := commonR_len R zs; omega
                have hful : ((Cm.length : Int) == (zs.length : Int)) = fullB R zs := by
                  rw [fullB, hCm, Bool.eq_iff_iff, beq_iff_eq, decide_eq_true_eq]; omega
                have hful' := hid hful
                have hCm' := hid hCm
                clear hCm hful
                go_wp2_with fail
                go_region_held3 (fun w' => w'.cell? (ad2.add j) = some (.slice Ai zs.length ci) ∧ w'.cell? (adR.add k) = some (.int .i64 z)) (first | exact ⟨hc, hcRi⟩ | exact ⟨(hbn.cell (by rw [block_of_add]; exact hadB)).trans hc, (hbn.cell (by rw [block_of_add]; exact hadRi)).trans hcRi⟩)
                  (first
                    | (go_at_call 19; refine (hasInt_any z wr.drew (Reads.drew hri'.out) (by omega)).mono ?_; rw [hh'.out]; rintro e w' ⟨rfl, rfl⟩)
                    | (go_at_call 15; refine (common_at (wr := wr) (Below.refl _ wr).drew hCm'.out lg_i.out.at_ hri'.out (by omega) (by omega)).mono ?_; rintro e w' ⟨A9, c9, rfl, hbn⟩))
                have hB5 := hid hbn
                clear hbn
                go_wp2
                go_roundw
                case rel => exact ⟨j + 1, by omega, by go_num, by rw [hfs.out, hb'.out, hzs.out, hh'.out, ← hful'.out]; rfl, hbi.trans (hB5.out.mono hszi)⟩
                case measure => simp [intOf]; omega
          · have hjn' : Hid (foundTo R zss x z j = true) := hid (by rw [show j = n by omega]; exact hfin'.out)
            have hf := hjn'.out
            go_wp2
            go_roundw
            case rel => exact ⟨k + 1, by omega, by go_num, hbel'.out.trans (hbi.mono hsz)⟩
            case measure => simp [intOf]; omega
      · go_wp2
        go_ret
        exact ⟨rfl, hB4.out.trans (hbel.mono hs4)⟩
  · go_enter Try.func5, Try.ntmps5
    go_wp2
    go_ret
    exact ⟨rfl, Below.refl _ _⟩

end Go.Proofs.Ytdahnideolaniaa
