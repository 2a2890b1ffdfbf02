/-
  The walks of the laws FnBatchCut, FnBatchFew, FnBatchSingle, FnBatchLarger, FnBatchAll. No condition.
-/
import Derived.Test.YtikjcpbhleejnaaBtK
namespace Go.Proofs.Ytikjcpbhleejnaa
open Go.RowKit

theorem sameB_refl (zs : List Int) : sameB zs zs = true := by simp [sameB]

theorem Lv.capB {w : World} {lo hi n c : Nat} {A : Option Addr} {zs : List Int} (h : Lv w lo hi (.slice A n c) zs) : n ≤ c ∧ c ≤ maxLen := by
  have hl : zs.length = n := h.at_.len
  rcases h.1.1.2 with ⟨e, h0⟩ | ⟨g, cap, cur, e, _, _, h1, h2, _⟩
  · injection e with _ e2 e3
    subst e2; subst e3
    exact ⟨Nat.le_refl _, Nat.zero_le _⟩
  · injection e with _ e2 e3
    subst e3
    exact ⟨by omega, h2⟩

set_option maxHeartbeats 4000000 in
theorem lawBatchCut {a : Option Addr} {len cap : Nat} {cs : List Int} (w : World) (h : RowIs .u8 w a len cap cs) :
    Calls Try.prog 3 #[.slice a len cap] w fun e w' => e = .returned (.bool true) ∧ Below w.heap.size w w' := by
  have h' := hid h
  clear h
  by_cases hbig : len ≤ 1048576
  · go_enter Try.func3, Try.ntmps3
    go_wp2_with fail
    refine (DrawBatchCut_any w h'.out).mono ?_
    rintro e w1 ⟨v, xs, B, M, rfl, ho1, hl1, hB0, hB9, hM0, hM9, hb1⟩
    have lx_1 := hid (Lv.ofI ho1)
    have hB1 := hid hb1
    have hs1 := hb1.size
    clear ho1 hb1
    obtain ⟨A, c, rfl⟩ := lx_1.out.rd
    obtain ⟨n, hn⟩ : ∃ n, xs.length = n := ⟨_, rfl⟩
    have hn' := hid hn
    rw [hn] at lx_1 hl1 ⊢
    clear hn
    obtain ⟨R, hR⟩ : ∃ R, cutR xs B M = R := ⟨_, rfl⟩
    have hR' := hid hR
    have hRl : R.length ≤ 20 := by rw [← hR]; exact cut_len
    clear hR
    go_wp2_with fail
    refine (BatchCut_impl B M w1 lx_1.out.at_ (Nat.le_refl _) (by omega)).mono ?_
    rw [hR'.out]
    rintro e w2 ⟨v2, rfl, ho2, hb2⟩
    have lg_2 := hid (Lv.ofI ho2)
    have lx_2 := hid (lx_1.out.step hb2)
    have hB2 := hid (hB1.out.trans (hb2.mono hs1))
    have hs2 := hB2.out.size
    clear ho2 hb2 lx_1 hB1
    obtain ⟨Ag, cg, rfl⟩ := lg_2.out.rd
    obtain ⟨m, hm⟩ : ∃ m, R.length = m := ⟨_, rfl⟩
    have hm' := hid hm
    rw [hm] at lg_2 hRl ⊢
    clear hm
    go_wp2_with fail
    refine (BatchCut_spec B M w2 lx_2.out.at_ (by omega)).mono ?_
    rw [hR'.out]
    rintro e w3 ⟨v3, rfl, ho3, hb3⟩
    have lp_3 := hid (Lv.ofI ho3)
    have lx_3 := hid (lx_2.out.step hb3)
    have lg_3 := hid (lg_2.out.step hb3)
    have hB3 := hid (hB2.out.trans (hb3.mono hs2))
    have hs3 := hB3.out.size
    clear ho3 hb3 lx_2 lg_2 hB2
    obtain ⟨Ap, cp, rfl⟩ := lp_3.out.rd
    rw [hm'.out] at lp_3 ⊢
    cases hv : bvB xs B M with
    | false =>
      go_wp2_with fail
      refine (sameInts_any _ lg_3.out.at_ lp_3.out.at_ (by omega) (by omega)).mono ?_
      rw [sameB_refl]
      rintro e w4 ⟨rfl, hq⟩
      have lx_4 := hid (lx_3.out.quiet hq)
      have lg_4 := hid (lg_3.out.quiet hq)
      have lp_4 := hid (lp_3.out.quiet hq)
      have hB4 := hid (hB3.out.trans (hq.below _))
      have hs4 := hB4.out.size
      clear hq lx_3 lg_3 lp_3 hB3
      go_wp2_with fail
      refine (BatchesValid_spec B M w4 lx_4.out.at_ (by omega)).mono ?_
      rw [hv]
      rintro e w4' ⟨rfl, rfl⟩
      clear hv
      go_wp2_with fail
      refine (sameInts_any _ lg_4.out.at_ lp_4.out.at_ (by omega) (by omega)).mono ?_
      rw [sameB_refl]
      rintro e w5 ⟨rfl, hq⟩
      have hB5 := hid (hB4.out.trans (hq.below _))
      go_wp2
      go_ret
      exact ⟨rfl, hB5.out⟩
    | true =>
      have hv' := hid hv
      go_wp2_with fail
      refine (sameInts_any _ lg_3.out.at_ lp_3.out.at_ (by omega) (by omega)).mono ?_
      rw [sameB_refl]
      rintro e w4 ⟨rfl, hq⟩
      have lx_4 := hid (lx_3.out.quiet hq)
      have lg_4 := hid (lg_3.out.quiet hq)
      have lp_4 := hid (lp_3.out.quiet hq)
      have hB4 := hid (hB3.out.trans (hq.below _))
      have hs4 := hB4.out.size
      clear hq lx_3 lg_3 lp_3 hB3
      go_wp2_with fail
      refine (BatchesValid_spec B M w4 lx_4.out.at_ (by omega)).mono ?_
      rw [hv]
      rintro e w4' ⟨rfl, rfl⟩
      clear hv lp_4
      have hf := cut_fits hv'.out
      rw [hR'.out] at hf
      have hf' := hid hf
      clear hf
      go_wp2_with fail
      refine (BatchFits_impl B M w4 lx_4.out.at_ (Nat.le_refl _) (by omega) lx_4.out.capB.1 lx_4.out.capB.2 lg_4.out.at_ (Nat.le_refl _) (by omega)).mono ?_
      rw [hf'.out]
      rintro e w5 ⟨rfl, hb5⟩
      have hB5 := hid (hB4.out.trans (hb5.mono hs4))
      clear hb5
      go_wp2
      go_ret
      exact ⟨rfl, hB5.out⟩
  · go_enter Try.func3, Try.ntmps3
    go_wp2
    go_ret
    exact ⟨rfl, Below.refl _ _⟩

set_option maxHeartbeats 4000000 in
theorem lawBatchFew {a : Option Addr} {len cap : Nat} {cs : List Int} (w : World) (h : RowIs .u8 w a len cap cs) :
    Calls Try.prog 4 #[.slice a len cap] w fun e w' => e = .returned (.bool true) ∧ Below w.heap.size w w' := by
  have h' := hid h
  clear h
  by_cases hbig : len ≤ 1048576
  · go_enter Try.func4, Try.ntmps4
    go_wp2_with fail
    refine (DrawBatchFits_any w h'.out).mono ?_
    rintro e w1 ⟨v, u, xs, ys, B, M, rfl, ho1, hu1, hl1, hl2, hB0, hB9, hM0, hM9, hb1⟩
    have lx_1 := hid (Lv.ofI ho1)
    have ly_1 := hid (Lv.ofI hu1)
    have hB1 := hid hb1
    have hs1 := hb1.size
    clear ho1 hu1 hb1
    obtain ⟨A, c, rfl⟩ := lx_1.out.rd
    obtain ⟨A2, c2, rfl⟩ := ly_1.out.rd
    obtain ⟨n, hn⟩ : ∃ n, xs.length = n := ⟨_, rfl⟩
    obtain ⟨m, hm⟩ : ∃ m, ys.length = m := ⟨_, rfl⟩
    have hn' := hid hn
    have hm' := hid hm
    rw [hn] at lx_1 hl1 ⊢
    rw [hm] at ly_1 hl2 ⊢
    clear hn hm
    go_wp2_with fail
    refine (BatchFits_impl B M w1 lx_1.out.at_ (Nat.le_refl _) (by omega) lx_1.out.capB.1 lx_1.out.capB.2 ly_1.out.at_ (Nat.le_refl _) (by omega)).mono ?_
    cases hf : fitR xs B M ys with
    | false =>
      rintro e w2 ⟨rfl, hb2⟩
      have lx_2 := hid (lx_1.out.step hb2)
      have ly_2 := hid (ly_1.out.step hb2)
      have hB2 := hid (hB1.out.trans (hb2.mono hs1))
      clear hb2 lx_1 ly_1 hB1
      have hf' := hid hf
      clear hf
      go_wp2_with fail
      refine (BatchFits_spec B M w2 lx_2.out.at_ ly_2.out.at_ (by omega) (by omega)).mono ?_
      rw [hf'.out]
      rintro e w3 ⟨rfl, rfl⟩
      go_wp2_with fail
      refine (BatchFits_spec B M w2 lx_2.out.at_ ly_2.out.at_ (by omega) (by omega)).mono ?_
      rw [hf'.out]
      rintro e w3 ⟨rfl, rfl⟩
      go_wp2
      go_ret
      exact ⟨rfl, hB2.out⟩
    | true =>
      rintro e w2 ⟨rfl, hb2⟩
      have lx_2 := hid (lx_1.out.step hb2)
      have ly_2 := hid (ly_1.out.step hb2)
      have hB2 := hid (hB1.out.trans (hb2.mono hs1))
      have hs2 := hB2.out.size
      clear hb2 lx_1 ly_1 hB1
      have hf' := hid hf
      clear hf
      go_wp2_with fail
      refine (BatchFits_spec B M w2 lx_2.out.at_ ly_2.out.at_ (by omega) (by omega)).mono ?_
      rw [hf'.out]
      rintro e w3 ⟨rfl, rfl⟩
      have hle := few hf'.out
      rw [hm'.out] at hle
      go_wp2_with fail
      refine (BatchCut_impl B M w2 lx_2.out.at_ (Nat.le_refl _) (by omega)).mono ?_
      rintro e w4 ⟨v4, rfl, ho4, hb4⟩
      have lg_4 := hid (Lv.ofI ho4)
      have hB4 := hid (hB2.out.trans (hb4.mono hs2))
      clear ho4 hb4
      obtain ⟨Ag, cg, rfl⟩ := lg_4.out.rd
      obtain ⟨r, hr⟩ : ∃ r, (cutR xs B M).length = r := ⟨_, rfl⟩
      rw [hr] at hle ⊢
      clear hr lg_4
      go_wp2
      go_ret
      exact ⟨rfl, hB4.out⟩
  · go_enter Try.func4, Try.ntmps4
    go_wp2
    go_ret
    exact ⟨rfl, Below.refl _ _⟩

set_option maxHeartbeats 4000000 in
theorem lawBatchSingle {a : Option Addr} {len cap : Nat} {cs : List Int} (w : World) (h : RowIs .u8 w a len cap cs) :
    Calls Try.prog 9 #[.slice a len cap] w fun e w' => e = .returned (.bool true) ∧ Below w.heap.size w w' := by
  have h' := hid h
  clear h
  by_cases hbig : len ≤ 1048576
  · go_enter Try.func9, Try.ntmps9
    go_wp2_with fail
    refine (DrawBatchCut_any w h'.out).mono ?_
    rintro e w1 ⟨v, xs, B, M, rfl, ho1, hl1, hB0, hB9, hM0, hM9, hb1⟩
    have lx_1 := hid (Lv.ofI ho1)
    have hB1 := hid hb1
    have hs1 := hb1.size
    clear ho1 hb1
    obtain ⟨A, c, rfl⟩ := lx_1.out.rd
    obtain ⟨n, hn⟩ : ∃ n, xs.length = n := ⟨_, rfl⟩
    have hn' := hid hn
    rw [hn] at lx_1 hl1 ⊢
    clear hn
    obtain ⟨R, hR⟩ : ∃ R, cutR xs B M = R := ⟨_, rfl⟩
    have hR' := hid hR
    have hRl : R.length ≤ 20 := by rw [← hR]; exact cut_len
    clear hR
    go_wp2_with fail
    refine (BatchCut_impl B M w1 lx_1.out.at_ (Nat.le_refl _) (by omega)).mono ?_
    rw [hR'.out]
    rintro e w2 ⟨v2, rfl, ho2, hb2⟩
    have lg_2 := hid (Lv.ofI ho2)
    have lx_2 := hid (lx_1.out.step hb2)
    have hB2 := hid (hB1.out.trans (hb2.mono hs1))
    have hs2 := hB2.out.size
    clear ho2 hb2 lx_1 hB1
    obtain ⟨Ag, cg, rfl⟩ := lg_2.out.rd
    obtain ⟨m, hm⟩ : ∃ m, R.length = m := ⟨_, rfl⟩
    have hm' := hid hm
    rw [hm] at lg_2 hRl ⊢
    clear hm
    go_wp2_with fail
    refine (BatchCut_spec B M w2 lx_2.out.at_ (by omega)).mono ?_
    rw [hR'.out]
    rintro e w3 ⟨v3, rfl, ho3, hb3⟩
    have lp_3 := hid (Lv.ofI ho3)
    have lx_3 := hid (lx_2.out.step hb3)
    have lg_3 := hid (lg_2.out.step hb3)
    have hB3 := hid (hB2.out.trans (hb3.mono hs2))
    have hs3 := hB3.out.size
    clear ho3 hb3 lx_2 lg_2 hB2
    obtain ⟨Ap, cp, rfl⟩ := lp_3.out.rd
    rw [hm'.out] at lp_3 ⊢
    cases hv : bvB xs B M with
    | false =>
      go_wp2_with fail
      refine (sameInts_any _ lg_3.out.at_ lp_3.out.at_ (by omega) (by omega)).mono ?_
      rw [sameB_refl]
      rintro e w4 ⟨rfl, hq⟩
      have lx_4 := hid (lx_3.out.quiet hq)
      have lg_4 := hid (lg_3.out.quiet hq)
      have lp_4 := hid (lp_3.out.quiet hq)
      have hB4 := hid (hB3.out.trans (hq.below _))
      have hs4 := hB4.out.size
      clear hq lx_3 lg_3 lp_3 hB3
      go_wp2_with fail
      refine (BatchesValid_spec B M w4 lx_4.out.at_ (by omega)).mono ?_
      rw [hv]
      rintro e w4' ⟨rfl, rfl⟩
      clear hv
      go_wp2_with fail
      refine (sameInts_any _ lg_4.out.at_ lp_4.out.at_ (by omega) (by omega)).mono ?_
      rw [sameB_refl]
      rintro e w5 ⟨rfl, hq⟩
      have hB5 := hid (hB4.out.trans (hq.below _))
      go_wp2
      go_ret
      exact ⟨rfl, hB5.out⟩
    | true =>
      have hv' := hid hv
      go_wp2_with fail
      refine (sameInts_any _ lg_3.out.at_ lp_3.out.at_ (by omega) (by omega)).mono ?_
      rw [sameB_refl]
      rintro e w4 ⟨rfl, hq⟩
      have lx_4 := hid (lx_3.out.quiet hq)
      have lg_4 := hid (lg_3.out.quiet hq)
      have lp_4 := hid (lp_3.out.quiet hq)
      have hB4 := hid (hB3.out.trans (hq.below _))
      have hs4 := hB4.out.size
      clear hq lx_3 lg_3 lp_3 hB3
      go_wp2_with fail
      refine (BatchesValid_spec B M w4 lx_4.out.at_ (by omega)).mono ?_
      rw [hv]
      rintro e w4' ⟨rfl, rfl⟩
      clear hv lp_4
      have hone := hid (show cutR xs B 1 = List.replicate n 1 by
        obtain ⟨a1, a2, a3, a4, a5, _, _⟩ := bvB_true hv'.out
        rw [cut_one (bvB_of a1 a2 a3 a4 a5 (by omega) (by omega)), hn'.out])
      go_wp2_with fail
      refine (BatchCut_impl B 1 w4 lx_4.out.at_ (Nat.le_refl _) (by omega)).mono ?_
      rw [hone.out]
      rintro e w5 ⟨v5, rfl, ho5, hb5⟩
      have lz_5 := hid (Lv.ofI ho5)
      have hB5 := hid (hB4.out.trans (hb5.mono hs4))
      clear ho5 hb5 lx_4 lg_4 hB4
      obtain ⟨Az, cz, rfl⟩ := lz_5.out.rd
      rw [List.length_replicate] at lz_5 ⊢
      have hz := hid lz_5.out.at_
      go_wp2
      go_loop [9] (fun i => ∃ k : Nat, k ≤ n ∧ i = .int .i64 k) (fun i => n - (intOf i).toNat)
      case atStart => exact ⟨0, Nat.zero_le _, rfl⟩
      case round =>
        obtain ⟨k, hk, rfl⟩ := hrel
        by_cases hlt : k < n
        · obtain ⟨ad, z, rfl, hzz, hc⟩ := RdI.at' hz.out hlt
          obtain rfl : z = 1 := by rw [← hzz.out]; simp [hlt]
          clear hzz
          go_wp2
          go_round
          case rel => exact ⟨k + 1, by omega, by go_num⟩
          case measure => simp [intOf]; omega
        · obtain rfl : k = n := by omega
          go_wp2
          go_ret
          exact ⟨rfl, hB5.out⟩
  · go_enter Try.func9, Try.ntmps9
    go_wp2
    go_ret
    exact ⟨rfl, Below.refl _ _⟩

set_option maxHeartbeats 4000000 in
theorem lawBatchLarger {a : Option Addr} {len cap : Nat} {cs : List Int} (w : World) (h : RowIs .u8 w a len cap cs) :
    Calls Try.prog 8 #[.slice a len cap] w fun e w' => e = .returned (.bool true) ∧ Below w.heap.size w w' := by
  have h' := hid h
  clear h
  by_cases hbig : len ≤ 1048576
  · go_enter Try.func8, Try.ntmps8
    go_wp2_with fail
    refine (DrawBatchCut_any w h'.out).mono ?_
    rintro e w1 ⟨v, xs, B, M, rfl, ho1, hl1, hB0, hB9, hM0, hM9, hb1⟩
    have lx_1 := hid (Lv.ofI ho1)
    have hB1 := hid hb1
    have hs1 := hb1.size
    clear ho1 hb1
    obtain ⟨A, c, rfl⟩ := lx_1.out.rd
    obtain ⟨n, hn⟩ : ∃ n, xs.length = n := ⟨_, rfl⟩
    have hn' := hid hn
    rw [hn] at lx_1 hl1 ⊢
    clear hn
    obtain ⟨R, hR⟩ : ∃ R, cutR xs B M = R := ⟨_, rfl⟩
    have hR' := hid hR
    have hRl : R.length ≤ 20 := by rw [← hR]; exact cut_len
    clear hR
    go_wp2_with fail
    refine (BatchCut_impl B M w1 lx_1.out.at_ (Nat.le_refl _) (by omega)).mono ?_
    rw [hR'.out]
    rintro e w2 ⟨v2, rfl, ho2, hb2⟩
    have lg_2 := hid (Lv.ofI ho2)
    have lx_2 := hid (lx_1.out.step hb2)
    have hB2 := hid (hB1.out.trans (hb2.mono hs1))
    have hs2 := hB2.out.size
    clear ho2 hb2 lx_1 hB1
    obtain ⟨Ag, cg, rfl⟩ := lg_2.out.rd
    obtain ⟨m, hm⟩ : ∃ m, R.length = m := ⟨_, rfl⟩
    have hm' := hid hm
    rw [hm] at lg_2 hRl ⊢
    clear hm
    go_wp2_with fail
    refine (BatchCut_spec B M w2 lx_2.out.at_ (by omega)).mono ?_
    rw [hR'.out]
    rintro e w3 ⟨v3, rfl, ho3, hb3⟩
    have lp_3 := hid (Lv.ofI ho3)
    have lx_3 := hid (lx_2.out.step hb3)
    have lg_3 := hid (lg_2.out.step hb3)
    have hB3 := hid (hB2.out.trans (hb3.mono hs2))
    have hs3 := hB3.out.size
    clear ho3 hb3 lx_2 lg_2 hB2
    obtain ⟨Ap, cp, rfl⟩ := lp_3.out.rd
    rw [hm'.out] at lp_3 ⊢
    by_cases hg : m = 0
    · subst hg
      go_wp2_with fail
      refine (sameInts_any _ lg_3.out.at_ lp_3.out.at_ (by omega) (by omega)).mono ?_
      rw [sameB_refl]
      rintro e w4 ⟨rfl, hq⟩
      have lx_4 := hid (lx_3.out.quiet hq)
      have lg_4 := hid (lg_3.out.quiet hq)
      have lp_4 := hid (lp_3.out.quiet hq)
      have hB4 := hid (hB3.out.trans (hq.below _))
      have hs4 := hB4.out.size
      clear hq lx_3 lg_3 lp_3 hB3
      go_wp2_with fail
      refine (sameInts_any _ lg_4.out.at_ lp_4.out.at_ (by omega) (by omega)).mono ?_
      rw [sameB_refl]
      rintro e w5 ⟨rfl, hq⟩
      have hB5 := hid (hB4.out.trans (hq.below _))
      go_wp2
      go_ret
      exact ⟨rfl, hB5.out⟩
    · have hv : bvB xs B M = true := by
        cases hv : bvB xs B M with
        | true => rfl
        | false =>
          have h1 := hR'.out
          rw [cutR_no hv] at h1
          have h2 := hm'.out
          rw [← h1] at h2
          simp at h2
          omega
      have hv' := hid hv
      clear hv
      go_wp2_with fail
      refine (sameInts_any _ lg_3.out.at_ lp_3.out.at_ (by omega) (by omega)).mono ?_
      rw [sameB_refl]
      rintro e w4 ⟨rfl, hq⟩
      have lx_4 := hid (lx_3.out.quiet hq)
      have lg_4 := hid (lg_3.out.quiet hq)
      have lp_4 := hid (lp_3.out.quiet hq)
      have hB4 := hid (hB3.out.trans (hq.below _))
      have hs4 := hB4.out.size
      clear hq lx_3 lg_3 lp_3 hB3
      clear lp_4
      obtain ⟨ra, hra, hra0, hra1⟩ : ∃ ra, cutR xs (B + 1) M = ra ∧ ra.length ≤ 20 ∧ (B ≠ 99 → 0 < ra.length ∧ ra.length ≤ m) := ⟨_, rfl, cut_len, fun hne => by
        obtain ⟨a1, a2, a3, a4, a5, a6, a7⟩ := bvB_true hv'.out
        have := larger (B' := B + 1) (M' := M) hv'.out (by omega) (by omega) (by omega) (by omega) (by rw [hR'.out, hm'.out]; omega)
        rw [hR'.out, hm'.out] at this
        exact this⟩
      obtain ⟨rb, hrb, hrb0, hrb1⟩ : ∃ rb, cutR xs B (M + 1) = rb ∧ rb.length ≤ 20 ∧ (M ≠ 20 → 0 < rb.length ∧ rb.length ≤ m) := ⟨_, rfl, cut_len, fun hne => by
        obtain ⟨a1, a2, a3, a4, a5, a6, a7⟩ := bvB_true hv'.out
        have := larger (B' := B) (M' := M + 1) hv'.out (by omega) (by omega) (by omega) (by omega) (by rw [hR'.out, hm'.out]; omega)
        rw [hR'.out, hm'.out] at this
        exact this⟩
      have hra1 := hid hra1
      have hrb1 := hid hrb1
      have hra := hid hra
      have hrb := hid hrb
      obtain ⟨na, hna⟩ : ∃ na, ra.length = na := ⟨_, rfl⟩
      obtain ⟨nb, hnb⟩ : ∃ nb, rb.length = nb := ⟨_, rfl⟩
      rw [hna] at hra0 hra1
      rw [hnb] at hrb0 hrb1
      have hna := hid hna
      have hnb := hid hnb
      go_wp2_with fail
      refine (BatchCut_impl (B + 1) M w4 lx_4.out.at_ (Nat.le_refl _) (by omega)).mono ?_
      rw [hra.out]
      rintro e w5 ⟨v5, rfl, ho5, hb5⟩
      have la_5 := hid (Lv.ofI ho5)
      have hB5 := hid (hB4.out.trans (hb5.mono hs4))
      have lx_5 := hid (lx_4.out.step hb5)
      have hs5 := hB5.out.size
      clear ho5 hb5 lx_4 lg_4 hB4
      obtain ⟨Aa, ca, rfl⟩ := la_5.out.rd
      rw [hna.out] at la_5 ⊢
      go_wp2_with fail
      refine (BatchCut_impl B (M + 1) w5 lx_5.out.at_ (Nat.le_refl _) (by omega)).mono ?_
      rw [hrb.out]
      rintro e w6 ⟨v6, rfl, ho6, hb6⟩
      have lb_6 := hid (Lv.ofI ho6)
      have hB6 := hid (hB5.out.trans (hb6.mono hs5))
      clear ho6 hb6 lx_5 la_5 hB5
      obtain ⟨Ab, cb, rfl⟩ := lb_6.out.rd
      rw [hnb.out] at lb_6 ⊢
      by_cases hb : B = 99
      · subst hb
        by_cases hc : M = 20
        · subst hc
          by_cases e1 : 0 < na ∧ na ≤ m
          · by_cases e2 : 0 < nb ∧ nb ≤ m
            · go_wp2
              go_ret
              exact ⟨rfl, hB6.out⟩
            · go_wp2
              all_goals first | (go_ret; exact ⟨rfl, hB6.out⟩) | (exfalso; omega)
          · go_wp2
            all_goals first | (go_ret; exact ⟨rfl, hB6.out⟩) | (exfalso; omega)
        · obtain ⟨e2, e3⟩ := hrb1.out hc
          go_wp2
          all_goals first | (go_ret; exact ⟨rfl, hB6.out⟩) | (exfalso; omega)
      · obtain ⟨e0, e1⟩ := hra1.out hb
        by_cases hc : M = 20
        · subst hc
          go_wp2
          all_goals first | (go_ret; exact ⟨rfl, hB6.out⟩) | (exfalso; omega)
        · obtain ⟨e2, e3⟩ := hrb1.out hc
          go_wp2
          go_ret
          exact ⟨rfl, hB6.out⟩
  · go_enter Try.func8, Try.ntmps8
    go_wp2
    go_ret
    exact ⟨rfl, Below.refl _ _⟩

set_option maxHeartbeats 4000000 in
theorem lawBatchAll {a : Option Addr} {len cap : Nat} {cs : List Int} (w : World) (h : RowIs .u8 w a len cap cs) :
    Calls Try.prog 10 #[.slice a len cap] w fun e w' => e = .returned (.bool true) ∧ Below w.heap.size w w' := by
  have h' := hid h
  clear h
  by_cases hbig : len ≤ 1048576
  · go_enter Try.func10, Try.ntmps10
    go_wp2_with fail
    refine (DrawBatchCut_any w h'.out).mono ?_
    rintro e w1 ⟨v, xs, B, M, rfl, ho1, hl1, hB0, hB9, hM0, hM9, hb1⟩
    have lx_1 := hid (Lv.ofI ho1)
    have hB1 := hid hb1
    have hs1 := hb1.size
    clear ho1 hb1
    obtain ⟨A, c, rfl⟩ := lx_1.out.rd
    obtain ⟨n, hn⟩ : ∃ n, xs.length = n := ⟨_, rfl⟩
    have hn' := hid hn
    rw [hn] at lx_1 hl1 ⊢
    clear hn
    obtain ⟨R, hR⟩ : ∃ R, cutR xs B M = R := ⟨_, rfl⟩
    have hR' := hid hR
    have hRl : R.length ≤ 20 := by rw [← hR]; exact cut_len
    clear hR
    go_wp2_with fail
    refine (BatchCut_impl B M w1 lx_1.out.at_ (Nat.le_refl _) (by omega)).mono ?_
    rw [hR'.out]
    rintro e w2 ⟨v2, rfl, ho2, hb2⟩
    have lg_2 := hid (Lv.ofI ho2)
    have lx_2 := hid (lx_1.out.step hb2)
    have hB2 := hid (hB1.out.trans (hb2.mono hs1))
    have hs2 := hB2.out.size
    clear ho2 hb2 lx_1 hB1
    obtain ⟨Ag, cg, rfl⟩ := lg_2.out.rd
    obtain ⟨m, hm⟩ : ∃ m, R.length = m := ⟨_, rfl⟩
    have hm' := hid hm
    rw [hm] at lg_2 hRl ⊢
    clear hm
    go_wp2_with fail
    refine (BatchCut_spec B M w2 lx_2.out.at_ (by omega)).mono ?_
    rw [hR'.out]
    rintro e w3 ⟨v3, rfl, ho3, hb3⟩
    have lp_3 := hid (Lv.ofI ho3)
    have lx_3 := hid (lx_2.out.step hb3)
    have lg_3 := hid (lg_2.out.step hb3)
    have hB3 := hid (hB2.out.trans (hb3.mono hs2))
    have hs3 := hB3.out.size
    clear ho3 hb3 lx_2 lg_2 hB2
    obtain ⟨Ap, cp, rfl⟩ := lp_3.out.rd
    rw [hm'.out] at lp_3 ⊢
    cases hv : bvB xs B M with
    | false =>
      go_wp2_with fail
      refine (sameInts_any _ lg_3.out.at_ lp_3.out.at_ (by omega) (by omega)).mono ?_
      rw [sameB_refl]
      rintro e w4 ⟨rfl, hq⟩
      have lx_4 := hid (lx_3.out.quiet hq)
      have lg_4 := hid (lg_3.out.quiet hq)
      have lp_4 := hid (lp_3.out.quiet hq)
      have hB4 := hid (hB3.out.trans (hq.below _))
      have hs4 := hB4.out.size
      clear hq lx_3 lg_3 lp_3 hB3
      go_wp2_with fail
      refine (BatchesValid_spec B M w4 lx_4.out.at_ (by omega)).mono ?_
      rw [hv]
      rintro e w4' ⟨rfl, rfl⟩
      clear hv
      go_wp2_with fail
      refine (sameInts_any _ lg_4.out.at_ lp_4.out.at_ (by omega) (by omega)).mono ?_
      rw [sameB_refl]
      rintro e w5 ⟨rfl, hq⟩
      have hB5 := hid (hB4.out.trans (hq.below _))
      go_wp2
      go_ret
      exact ⟨rfl, hB5.out⟩
    | true =>
      have hv' := hid hv
      go_wp2_with fail
      refine (sameInts_any _ lg_3.out.at_ lp_3.out.at_ (by omega) (by omega)).mono ?_
      rw [sameB_refl]
      rintro e w4 ⟨rfl, hq⟩
      have lx_4 := hid (lx_3.out.quiet hq)
      have lg_4 := hid (lg_3.out.quiet hq)
      have lp_4 := hid (lp_3.out.quiet hq)
      have hB4 := hid (hB3.out.trans (hq.below _))
      have hs4 := hB4.out.size
      clear hq lx_3 lg_3 lp_3 hB3
      go_wp2_with fail
      refine (BatchesValid_spec B M w4 lx_4.out.at_ (by omega)).mono ?_
      rw [hv]
      rintro e w4' ⟨rfl, rfl⟩
      clear hv lp_4
      have hx := hid lx_4.out.at_
      obtain ⟨p1, p2, p3, p4, p5, p6, p7⟩ := bvB_true hv'.out
      have p1 := hid p1
      have p2 := hid p2
      rw [hn'.out] at p3
      go_wp2
      go_loop [8, 9] (fun s i => ∃ (k : Nat) (t : Int), k ≤ n ∧ i = .int .i64 k ∧ s = .int .i64 t ∧ 0 ≤ t ∧ t ≤ 99 * k ∧ Hid (tot (xs.take k) = t)) (fun _ i => n - (intOf i).toNat)
      case atStart => exact ⟨0, 0, Nat.zero_le _, rfl, rfl, by omega, by omega, hid (by simp [tot])⟩
      case round =>
        obtain ⟨k, t, hk, rfl, rfl, ht0, ht1, ht⟩ := hrel
        by_cases hlt : k < n
        · obtain ⟨ad, z, rfl, hz, hc⟩ := RdI.at' hx.out hlt
          have hlen : k < xs.length := by rw [hn'.out]; exact hlt
          have hmem := getD_mem' hlen
          rw [hz.out] at hmem
          have hz1 := p1.out z hmem
          have hz2 := p2.out z hmem
          have hs := hid (tot_take_succ hlen hz.out)
          rw [ht.out] at hs
          clear hz hmem hlen
          go_wp2
          go_round
          case rel => exact ⟨k + 1, t + z, by omega, by go_num, by go_num, by omega, by omega, hs⟩
          case measure => simp [intOf]; omega
        · obtain rfl : k = n := by omega
          have hfull : tot xs = t := by
            have := ht.out
            rw [List.take_of_length_le (by rw [hn'.out]; omega)] at this
            exact this
          have hall := hid (fun (h1 : t ≤ B) (h2 : (k : Int) ≤ M) => cut_all hv'.out (by rw [hfull]; exact h1) (by rw [hn'.out]; exact h2))
          rw [hR'.out, hm'.out, hn'.out] at hall
          clear hfull
          by_cases h1 : B < t
          · go_wp2
            go_ret
            exact ⟨rfl, hB4.out⟩
          · by_cases h2 : M < (k : Int)
            · go_wp2
              go_ret
              exact ⟨rfl, hB4.out⟩
            · have hmn := hall.out (by omega) (by omega)
              by_cases h0 : k = 0
              · subst h0
                obtain rfl : m = 0 := by simpa using hmn
                clear hmn hlt
                go_wp2
                all_goals first | (go_ret; exact ⟨rfl, hB4.out⟩) | (exfalso; omega)
              · obtain rfl : m = 1 := by omega
                by_cases h3 : k = 1
                · subst h3
                  clear hmn hlt
                  go_wp2
                  all_goals first | (go_ret; exact ⟨rfl, hB4.out⟩) | (exfalso; omega)
                · have h4 : 1 < k := by omega
                  clear hmn hlt h3
                  go_wp2
                  all_goals first | (go_ret; exact ⟨rfl, hB4.out⟩) | (exfalso; omega)
  · go_enter Try.func10, Try.ntmps10
    go_wp2
    go_ret
    exact ⟨rfl, Below.refl _ _⟩

end Go.Proofs.Ytikjcpbhleejnaa
