/-
  The walks of the laws FnCommitLeader and FnCommitLeaderMost. No condition.
-/
import Derived.Test.YtgejohkdgcoeeaaCmL
import Derived.Test.YtgejohkdgcoeeaaCmK
namespace Go.Proofs.Ytgejohkdgcoeeaa
open Go.RowKit

theorem hasB_of {zs : List Int} {x : Int} (h : x ∈ zs) : hasB zs x = true := by
  unfold hasB; rw [List.contains_iff_mem]; exact h

theorem hasB_not {zs : List Int} {x : Int} (h : x ∉ zs) : hasB zs x = false := by
  unfold hasB; rw [← Bool.not_eq_true, List.contains_iff_mem]; exact h

set_option maxHeartbeats 4000000 in
theorem lawCommitLeader {a : Option Addr} {len cap : Nat} {cs : List Int} (w : World) (h : RowIs .u8 w a len cap cs) :
    Calls Try.prog 4 #[.slice a len cap] w fun e w' => e = .returned (.bool true) ∧ Below w.heap.size w w' := by
  have h' := hid h
  clear h
  by_cases hbig : len ≤ 1048576
  · go_enter Try.func4, Try.ntmps4
    go_wp2_with fail
    refine (DrawCommitLeader_any w h'.out).mono ?_
    rintro e w1 ⟨v, u, xs, ys, rfl, ho1, ho2, _, hl1, hl2, hb1⟩
    have la_1 := hid (Lv.ofI ho1)
    have lb_1 := hid (Lv.ofI ho2)
    have hB1 := hid hb1
    clear ho1 ho2 hb1
    obtain ⟨A, c, rfl⟩ := la_1.out.rd
    obtain ⟨A', c', rfl⟩ := lb_1.out.rd
    go_wp2_with fail
    refine (CommitLeader_impl _ la_1.out.at_ lb_1.out.at_ (by omega) (by omega)).mono ?_
    rintro e w2 ⟨rfl, hb⟩
    have la_2 := hid (la_1.out.step hb)
    have lb_2 := hid (lb_1.out.step hb)
    have hB2 := hid (hB1.out.trans (hb.mono hB1.out.size))
    clear hb la_1 lb_1 hB1
    go_wp2_with fail
    refine (CommitLeader_spec _ la_2.out.at_ lb_2.out.at_ (by omega) (by omega)).mono ?_
    rintro e w3 ⟨rfl, hq⟩
    have la_3 := hid (la_2.out.quiet hq)
    have lb_3 := hid (lb_2.out.quiet hq)
    have hB3 := hid (hB2.out.trans (hq.below _))
    clear hq la_2 lb_2 hB2
    obtain ⟨r, hr⟩ : ∃ r, ldrR xs ys = r := ⟨_, rfl⟩
    rw [hr]
    have hr' := hid hr
    clear hr
    have hrr : (r != r) = false := by simp
    cases hb : ldB xs ys with
    | false =>
      obtain rfl : r = -1 := by rw [← hr'.out, ldrR_no hb]
      go_wp2
      go_ret
      exact ⟨rfl, hB3.out⟩
    | true =>
      obtain ⟨hv, hlv⟩ := ldB_both hb
      have hrl : ldr xs ys = r := by rw [← hr'.out, ldrR_yes hb]
      have hrng := ldr_rng hlv
      rw [hrl] at hrng
      have hmem := ldr_mem (zs := xs) (live_ne hlv)
      rw [hrl] at hmem
      have hhas := hid (hasB_of hmem)
      have hge : Hid (∀ c, CixR xs c → c ≤ xs.getD r.toNat 0) := hid (fun c hc => by
        have := ldr_has hlv (hc.1 hv)
        rw [hrl] at this; exact this)
      obtain ⟨hr0, hr1⟩ := hrng
      obtain ⟨n, hn⟩ : ∃ n, xs.length = n := ⟨_, rfl⟩
      obtain ⟨m, hm⟩ : ∃ m, ys.length = m := ⟨_, rfl⟩
      have hx3 := hid la_3.out.at_
      have hy3 : Hid (RdI w3.drew w3.heap.size A' ys.length ys) := hid lb_3.out.at_
      rw [hn] at hr1 hx3 hl1 ⊢
      rw [hm] at hy3 hl2 ⊢
      clear hv hlv hb hrl hmem hn hm la_3 lb_3 hr'
      obtain ⟨k, rfl⟩ := Int.eq_ofNat_of_zero_le hr0
      have hkn : k < n := by omega
      obtain ⟨ad, z, rfl, hz, hc⟩ := RdI.at' hx3.out hkn
      have P3 : Hid (w3.drew.cell? (ad.add k) = some (.int .i64 z)) := hid hc
      have hx3' : Hid (RdI w3.drew w3.drew.heap.size (some ad) n xs) := hid hx3.out
      have hadl : (ad.add k).block < w3.drew.heap.size := World.block_lt_of_cell? _ _ hc
      have hB3' : Hid (Below w.heap.size w w3.drew) := hid hB3.out.drew
      clear hc hx3 hB3
      go_wp2_with fail
      go_region_held3 (fun w' => w'.cell? (ad.add k) = some (.int .i64 z))
        (first | with_reducible exact P3.out | with_reducible exact P5.out)
        (first | (go_at_call 17; (with_reducible refine (hasInt_any _ _ hy3.out (by omega)).mono ?_); rw [hhas.out]; rintro e w4 ⟨rfl, rfl⟩)
               | (go_at_call 12; (with_reducible refine (CommitIndex_impl _ hx3'.out (Nat.le_refl _) (by omega)).mono ?_); rintro e w5 ⟨q, rfl, hq, hb5⟩; have P5 := hid ((hb5.cell (p := ad.add k) hadl).trans P3.out); have hB5 := hid (hB3'.out.trans (hb5.mono hB3'.out.size)); clear hb5))
      all_goals
        have hle := hge.out _ hq
        rw [Int.toNat_natCast, hz.out] at hle
        clear hq
        go_wp2
        go_ret
        exact ⟨by simp [hle], hB5.out⟩
  · go_enter Try.func4, Try.ntmps4
    go_wp2
    go_ret
    exact ⟨rfl, Below.refl _ _⟩

set_option maxHeartbeats 4000000 in
theorem lawCommitLeaderMost {a : Option Addr} {len cap : Nat} {cs : List Int} (w : World) (h : RowIs .u8 w a len cap cs) :
    Calls Try.prog 5 #[.slice a len cap] w fun e w' => e = .returned (.bool true) ∧ Below w.heap.size w w' := by
  have h' := hid h
  clear h
  by_cases hbig : len ≤ 1048576
  · go_enter Try.func5, Try.ntmps5
    go_wp2_with fail
    refine (DrawCommitLeader_any w h'.out).mono ?_
    rintro e w1 ⟨v, u, xs, ys, rfl, ho1, ho2, _, hl1, hl2, hb1⟩
    have la_1 := hid (Lv.ofI ho1)
    have lb_1 := hid (Lv.ofI ho2)
    have hB1 := hid hb1
    clear ho1 ho2 hb1
    obtain ⟨A, c, rfl⟩ := la_1.out.rd
    obtain ⟨A', c', rfl⟩ := lb_1.out.rd
    go_wp2_with fail
    refine (CommitLeader_impl _ la_1.out.at_ lb_1.out.at_ (by omega) (by omega)).mono ?_
    rintro e w2 ⟨rfl, hb⟩
    have la_2 := hid (la_1.out.step hb)
    have lb_2 := hid (lb_1.out.step hb)
    have hB2 := hid (hB1.out.trans (hb.mono hB1.out.size))
    clear hb la_1 lb_1 hB1
    go_wp2_with fail
    refine (CommitLeader_spec _ la_2.out.at_ lb_2.out.at_ (by omega) (by omega)).mono ?_
    rintro e w3 ⟨rfl, hq⟩
    have la_3 := hid (la_2.out.quiet hq)
    have lb_3 := hid (lb_2.out.quiet hq)
    have hB3 := hid (hB2.out.trans (hq.below _))
    clear hq la_2 lb_2 hB2
    obtain ⟨r, hr⟩ : ∃ r, ldrR xs ys = r := ⟨_, rfl⟩
    rw [hr]
    have hr' := hid hr
    clear hr
    have hrr : (r != r) = false := by simp
    cases hb : ldB xs ys with
    | false =>
      obtain rfl : r = -1 := by rw [← hr'.out, ldrR_no hb]
      go_wp2
      go_ret
      exact ⟨rfl, hB3.out⟩
    | true =>
      obtain ⟨hv, hlv⟩ := ldB_both hb
      have hrl : ldr xs ys = r := by rw [← hr'.out, ldrR_yes hb]
      have hrng := ldr_rng hlv
      rw [hrl] at hrng
      have hmost := ldr_most (zs := xs) (live_facts hlv).2.1
      rw [hrl] at hmost
      have hmost' := hid hmost
      have hin := hid (live_facts hlv).1
      obtain ⟨hr0, hr1⟩ := hrng
      obtain ⟨n, hn⟩ : ∃ n, xs.length = n := ⟨_, rfl⟩
      obtain ⟨m, hm⟩ : ∃ m, ys.length = m := ⟨_, rfl⟩
      have hx3 := hid la_3.out.at_
      have hy3 := hid lb_3.out.at_
      rw [hn] at hr1 hx3 hl1 hin ⊢
      rw [hm] at hy3 hl2 ⊢
      have hm' := hid hm
      clear hv hlv hb hrl hn hm la_3 lb_3 hr' hmost
      obtain ⟨g, rfl⟩ := Int.eq_ofNat_of_zero_le hr0
      have hgn : g < n := by omega
      go_wp2
      go_loopw [7] (fun i wr => ∃ k : Nat, k ≤ m ∧ i = .int .i64 k ∧ Qt w3 wr) (fun i _ => m - (intOf i).toNat)
      case atStart => exact ⟨0, Nat.zero_le _, rfl, Qt.refl _⟩
      case round =>
        obtain ⟨k, hk, rfl, hq⟩ := hrel
        by_cases hlt : k < m
        · obtain ⟨ad2, z, rfl, hz, hcz⟩ := RdI.at' (hq.reads hy3.out) hlt
          have hzm : z ∈ ys := by rw [← hz.out]; exact getD_mem (by rw [hm'.out]; exact hlt)
          obtain ⟨hz0, hz1⟩ := hin.out z hzm
          have hm1 := hmost'.out.1 z hzm
          have hm2 := hmost'.out.2 z hzm
          obtain ⟨j, rfl⟩ := Int.eq_ofNat_of_zero_le hz0
          have hjn : j < n := by omega
          obtain ⟨ad, x, rfl, hx, hcx⟩ := RdI.at' (hq.reads hx3.out) hjn
          obtain ⟨ad3, y, e3, hy, hcy⟩ := RdI.at' (hq.reads hx3.out) hgn
          injection e3 with e3
          subst e3
          rw [Int.toNat_natCast, Int.toNat_natCast, hx.out, hy.out] at hm1 hm2
          have hm2' := hid hm2
          have hd1 : decide (y < x) = false := by simp; omega
          clear hm2 hzm hz
          by_cases hjg : j < g
          · have hlt2 := hm2'.out (by omega)
            have hne : (x == y) = false := by simp; omega
            have hd2 : decide (j < g) = true := by simpa using hjg
            go_wp2
            go_quiet (fail)
            go_wp2
            go_roundw
            case rel => exact ⟨k + 1, by omega, by go_num, hq.drewN _⟩
            case measure => simp [intOf]; omega
          · have hd2 : decide (j < g) = false := by simpa using hjg
            go_wp2
            go_quiet (fail)
            go_wp2
            go_roundw
            case rel => exact ⟨k + 1, by omega, by go_num, hq.drewN _⟩
            case measure => simp [intOf]; omega
        · go_wp2
          go_ret
          exact ⟨rfl, hB3.out.trans (hq.below _)⟩
  · go_enter Try.func5, Try.ntmps5
    go_wp2
    go_ret
    exact ⟨rfl, Below.refl _ _⟩
end Go.Proofs.Ytgejohkdgcoeeaa
