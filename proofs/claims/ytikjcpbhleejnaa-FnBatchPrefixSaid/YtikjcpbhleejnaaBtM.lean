/-
  The walks of the laws FnBatchFull, FnBatchSum, FnBatchPrefix. No condition.
-/
import Derived.Test.YtikjcpbhleejnaaBtL
namespace Go.Proofs.Ytikjcpbhleejnaa
open Go.RowKit

theorem RdI.cutL {w : World} {B n k : Nat} {A : Option Addr} {zs : List Int} (h : RdI w B A n zs) (hk : k ≤ n) : RdI w B A k (zs.take k) := by
  have hl := h.len
  refine ⟨by simp [ints]; omega, fun h0 => ?_⟩
  obtain ⟨ad, e, hb, hc⟩ := h.2 (by omega)
  refine ⟨ad, e, hb, fun j u hu => hc j u ?_⟩
  rw [ints, List.map_take, List.getElem?_take] at hu
  split at hu
  · exact hu
  · cases hu

theorem cut_pos {xs : List Int} {B M : Int} : posL (cutR xs B M) := fun z hz => (inB_true.1 (cut_in z hz)).1

theorem tot_take_le {xs : List Int} (h : posL xs) (k : Nat) : tot (xs.take k) ≤ tot xs := by
  have e : tot xs = tot (xs.take k) + tot (xs.drop k) := by rw [← tot_append, List.take_append_drop]
  have := (h.drop k).tot
  omega

theorem tot_nonneg {xs : List Int} (h : posL xs) : 0 ≤ tot xs := by have := h.tot; omega

theorem fullL_at {B M : Int} : ∀ (cut xs : List Int) (k : Nat), fullL B M xs cut → posL cut → k + 1 < cut.length → B < tot ((xs.drop (tot (cut.take k)).toNat).take ((cut.getD k 0).toNat + 1)) ∨ cut.getD k 0 = M
  | [], _, _, _, _, h => by simp at h
  | [_], _, k, _, _, h => by simp at h
  | c :: d :: cs, xs, 0, h, _, _ => by
    have := h.1
    simpa [tot] using this
  | c :: d :: cs, xs, k + 1, h, hp, hk => by
    have ih := fullL_at (d :: cs) (xs.drop c.toNat) k h.2 hp.tail (by simpa using hk)
    have hc := hp.head
    have hn := tot_nonneg (hp.tail.take k)
    have e : (tot ((c :: d :: cs).take (k + 1))).toNat = c.toNat + (tot ((d :: cs).take k)).toNat := by
      rw [List.take_succ_cons]; simp only [tot]; omega
    rw [e, ← List.drop_drop]
    simpa using ih

theorem ofR_at {cut : List Int} {x : Int} {k : Nat} (h20 : cut.length ≤ 20) (hin : ∀ d ∈ cut, inB d 1 20 = true) (hk : k < cut.length) (h1 : tot (cut.take k) ≤ x) (h2 : x < tot (cut.take k) + cut.getD k 0) : ofR cut x = k := by
  have hpos : posL cut := fun z hz => (inB_true.1 (hin z hz)).1
  have h0 := tot_nonneg (hpos.take k)
  have e : cut = cut.take k ++ cut.getD k 0 :: cut.drop (k + 1) := by rw [← drop_cons hk rfl, List.take_append_drop]
  have := ofL_at (x := x) (cut.take k) (cut.getD k 0) 0 0 (cut.drop (k + 1)) (fun d hd => hin d (List.mem_of_mem_take hd)) (hin _ (getD_mem' hk)) (by omega) (by omega) (by omega)
  rw [← e, List.length_take, Nat.min_eq_left (by omega)] at this
  rw [ofR, if_pos h20, this]
  omega

theorem ofR_out {cut : List Int} {x : Int} (h20 : cut.length ≤ 20) (hin : ∀ d ∈ cut, inB d 1 20 = true) (h : x < 0 ∨ tot cut ≤ x) : ofR cut x = -1 := by
  rw [ofR, if_pos h20]
  exact ofL_out cut 0 0 hin (by omega)

set_option maxHeartbeats 4000000 in
theorem lawBatchFull {a : Option Addr} {len cap : Nat} {cs : List Int} (w : World) (h : RowIs .u8 w a len cap cs) :
    Calls Try.prog 5 #[.slice a len cap] w fun e w' => e = .returned (.bool true) ∧ Below w.heap.size w w' := by
  have h' := hid h
  clear h
  by_cases hbig : len ≤ 1048576
  · go_enter Try.func5, Try.ntmps5
    go_wp2_with fail
    refine (DrawBatchCut_any w h'.out).mono ?_
    rintro e w1 ⟨v, xs, B, M, rfl, ho1, hl1, hB0, hB9, hM0, hM9, hb1⟩
    have lx_1 := hid (Lv.ofI ho1)
    have hB1 := hid hb1
    have hs1 := hb1.size
    clear ho1 hb1
    obtain ⟨A, c, rfl⟩ := lx_1.out.rd
    obtain ⟨n, hn⟩ : ∃ n, xs.length = n := ⟨_, rfl⟩
    have hn' := hid hn
    rw [hn] at lx_1 hl1 ⊢
    clear hn
    obtain ⟨R, hR⟩ : ∃ R, cutR xs B M = R := ⟨_, rfl⟩
    have hR' := hid hR
    have hRl : R.length ≤ 20 := by rw [← hR]; exact cut_len
    clear hR
    go_wp2_with fail
    refine (BatchCut_impl B M w1 lx_1.out.at_ (Nat.le_refl _) (by omega)).mono ?_
    rw [hR'.out]
    rintro e w2 ⟨v2, rfl, ho2, hb2⟩
    have lg_2 := hid (Lv.ofI ho2)
    have lx_2 := hid (lx_1.out.step hb2)
    have hB2 := hid (hB1.out.trans (hb2.mono hs1))
    have hs2 := hB2.out.size
    clear ho2 hb2 lx_1 hB1
    obtain ⟨Ag, cg, rfl⟩ := lg_2.out.rd
    obtain ⟨m, hm⟩ : ∃ m, R.length = m := ⟨_, rfl⟩
    have hm' := hid hm
    rw [hm] at lg_2 hRl ⊢
    clear hm
    go_wp2_with fail
    refine (BatchCut_spec B M w2 lx_2.out.at_ (by omega)).mono ?_
    rw [hR'.out]
    rintro e w3 ⟨v3, rfl, ho3, hb3⟩
    have lp_3 := hid (Lv.ofI ho3)
    have lx_3 := hid (lx_2.out.step hb3)
    have lg_3 := hid (lg_2.out.step hb3)
    have hB3 := hid (hB2.out.trans (hb3.mono hs2))
    have hs3 := hB3.out.size
    clear ho3 hb3 lx_2 lg_2 hB2
    obtain ⟨Ap, cp, rfl⟩ := lp_3.out.rd
    rw [hm'.out] at lp_3 ⊢
    by_cases hgd : m < 2
    · go_wp2_with fail
      refine (sameInts_any _ lg_3.out.at_ lp_3.out.at_ (by omega) (by omega)).mono ?_
      rw [sameB_refl]
      rintro e w4 ⟨rfl, hq⟩
      have lx_4 := hid (lx_3.out.quiet hq)
      have lg_4 := hid (lg_3.out.quiet hq)
      have lp_4 := hid (lp_3.out.quiet hq)
      have hB4 := hid (hB3.out.trans (hq.below _))
      have hs4 := hB4.out.size
      clear hq lx_3 lg_3 lp_3 hB3
      go_wp2_with fail
      refine (sameInts_any _ lg_4.out.at_ lp_4.out.at_ (by omega) (by omega)).mono ?_
      rw [sameB_refl]
      rintro e w5 ⟨rfl, hq⟩
      have hB5 := hid (hB4.out.trans (hq.below _))
      go_wp2
      go_ret
      exact ⟨rfl, hB5.out⟩
    · have hv : bvB xs B M = true := by
        cases hv : bvB xs B M with
        | true => rfl
        | false =>
          have h1 := hR'.out
          rw [cutR_no hv] at h1
          have h2 := hm'.out
          rw [← h1] at h2
          simp at h2
          omega
      have hv' := hid hv
      clear hv
      go_wp2_with fail
      refine (sameInts_any _ lg_3.out.at_ lp_3.out.at_ (by omega) (by omega)).mono ?_
      rw [sameB_refl]
      rintro e w4 ⟨rfl, hq⟩
      have lx_4 := hid (lx_3.out.quiet hq)
      have lg_4 := hid (lg_3.out.quiet hq)
      have lp_4 := hid (lp_3.out.quiet hq)
      have hB4 := hid (hB3.out.trans (hq.below _))
      have hs4 := hB4.out.size
      clear hq lx_3 lg_3 lp_3 hB3
      clear lp_4
      have hx := hid lx_4.out.at_
      have hg := hid lg_4.out.at_
      obtain ⟨p1, p2, p3, p4, p5, p6, p7⟩ := bvB_true hv'.out
      have p1 := hid p1
      have p2 := hid p2
      rw [hn'.out] at p3
      have hpos := hid (cut_pos (xs := xs) (B := B) (M := M))
      have htot := hid (cut_tot hv'.out)
      have hfull := hid (cut_full hv'.out)
      have hbnd := hid (cut_in (xs := xs) (B := B) (M := M))
      rw [hR'.out] at hpos htot hfull hbnd
      rw [hn'.out] at htot
      have hm2 : 2 ≤ m := by omega
      clear lx_4 lg_4
      go_wp2
      go_loop [8, 9] (fun s i => ∃ k a : Nat, k + 1 ≤ m ∧ i = .int .i64 k ∧ s = .int .i64 a ∧ Hid (tot (R.take k) = a)) (fun _ i => m - (intOf i).toNat)
      case atStart => exact ⟨0, 0, by omega, rfl, rfl, hid (by simp [tot])⟩
      case round =>
        obtain ⟨k, a, hk, rfl, rfl, ha⟩ := hrel
        by_cases hlt : k + 1 < m
        · obtain ⟨adg, z, rfl, hz, hcz⟩ := RdI.at' hg.out (show k < m by omega)
          have hlen : k < R.length := by rw [hm'.out]; omega
          have hlen2 : k + 1 < R.length := by rw [hm'.out]; omega
          have hzb := inB_true.1 (hbnd.out z (by rw [← hz.out]; exact getD_mem' hlen))
          have hnx := inB_true.1 (hbnd.out _ (getD_mem' hlen2))
          have ht1 := tot_take_succ hlen hz.out
          have ht2 := tot_take_succ hlen2 rfl
          have hle := tot_take_le hpos.out (k + 1 + 1)
          rw [ha.out] at ht1
          rw [htot.out] at hle
          have haz : (a : Int) + z < n := by omega
          have hfa := fullL_at R xs k hfull.out hpos.out hlen2
          rw [ha.out, hz.out, Int.toNat_natCast] at hfa
          obtain ⟨hz0, hz1⟩ := hzb
          obtain ⟨y, rfl⟩ := Int.eq_ofNat_of_zero_le (show 0 ≤ z by omega)
          rw [Int.toNat_natCast] at hfa
          have hfa := hid hfa
          have ht1 := hid ht1
          clear hz ht2 hle hnx hlen hlen2
          go_wp2
          go_loop [10, 11] (fun s j => ∃ (d : Nat) (t : Int), d ≤ y + 1 ∧ j = .int .i64 ((a + d : Nat) : Int) ∧ s = .int .i64 t ∧ 0 ≤ t ∧ t ≤ 99 * d ∧ Hid (tot ((xs.drop a).take d) = t)) (fun _ j => a + y + 1 - (intOf j).toNat)
          case atStart => exact ⟨0, 0, by omega, by simp, rfl, by omega, by omega, hid (by simp [tot])⟩
          case round =>
            obtain ⟨d, t, hd, rfl, rfl, ht0, ht9, ht⟩ := hrel
            by_cases hdy : d < y + 1
            · have hjn : a + d < n := by omega
              obtain ⟨adx, x, rfl, hx2, hcx⟩ := RdI.at' hx.out hjn
              have hlx : a + d < xs.length := by rw [hn'.out]; exact hjn
              have hmem := getD_mem' hlx
              rw [hx2.out] at hmem
              have hx3 := p1.out x hmem
              have hx4 := p2.out x hmem
              have hst : Hid (tot ((xs.drop a).take (d + 1)) = t + x) := hid (by
                rw [tot_take_succ (z := x) (by rw [List.length_drop]; omega) (by rw [← hx2.out]; simp), ht.out])
              clear hx2 hlx hmem
              go_wp2
              go_round
              case rel => exact ⟨d + 1, t + x, by omega, by go_num, by go_num, by omega, by omega, hst⟩
              case measure => simp [intOf]; omega
            · obtain rfl : d = y + 1 := by omega
              have hor : B < t ∨ (y : Int) = M := by
                have := hfa.out
                rw [ht.out] at this
                exact this
              by_cases hBt : B < t
              · go_wp2
                go_round
                case rel => exact ⟨k + 1, a + y, by omega, by go_num, by go_num, hid (by rw [ht1.out]; omega)⟩
                case measure => simp [intOf]; omega
              · have hyM : (y : Int) = M := by omega
                have hyM' : decide ((y : Int) < M) = false := by simp; omega
                go_wp2
                go_round
                case rel => exact ⟨k + 1, a + y, by omega, by go_num, by go_num, hid (by rw [ht1.out]; omega)⟩
                case measure => simp [intOf]; omega
        · go_wp2
          go_ret
          exact ⟨rfl, hB4.out⟩
  · go_enter Try.func5, Try.ntmps5
    go_wp2
    go_ret
    exact ⟨rfl, Below.refl _ _⟩

set_option maxHeartbeats 4000000 in
theorem lawBatchSum {a : Option Addr} {len cap : Nat} {cs : List Int} (w : World) (h : RowIs .u8 w a len cap cs) :
    Calls Try.prog 6 #[.slice a len cap] w fun e w' => e = .returned (.bool true) ∧ Below w.heap.size w w' := by
  have h' := hid h
  clear h
  by_cases hbig : len ≤ 1048576
  · go_enter Try.func6, Try.ntmps6
    go_wp2_with fail
    refine (DrawBatchCut_any w h'.out).mono ?_
    rintro e w1 ⟨v, xs, B, M, rfl, ho1, hl1, hB0, hB9, hM0, hM9, hb1⟩
    have lx_1 := hid (Lv.ofI ho1)
    have hB1 := hid hb1
    have hs1 := hb1.size
    clear ho1 hb1
    obtain ⟨A, c, rfl⟩ := lx_1.out.rd
    obtain ⟨n, hn⟩ : ∃ n, xs.length = n := ⟨_, rfl⟩
    have hn' := hid hn
    rw [hn] at lx_1 hl1 ⊢
    clear hn
    obtain ⟨R, hR⟩ : ∃ R, cutR xs B M = R := ⟨_, rfl⟩
    have hR' := hid hR
    have hRl : R.length ≤ 20 := by rw [← hR]; exact cut_len
    clear hR
    go_wp2_with fail
    refine (BatchCut_impl B M w1 lx_1.out.at_ (Nat.le_refl _) (by omega)).mono ?_
    rw [hR'.out]
    rintro e w2 ⟨v2, rfl, ho2, hb2⟩
    have lg_2 := hid (Lv.ofI ho2)
    have lx_2 := hid (lx_1.out.step hb2)
    have hB2 := hid (hB1.out.trans (hb2.mono hs1))
    have hs2 := hB2.out.size
    clear ho2 hb2 lx_1 hB1
    obtain ⟨Ag, cg, rfl⟩ := lg_2.out.rd
    obtain ⟨m, hm⟩ : ∃ m, R.length = m := ⟨_, rfl⟩
    have hm' := hid hm
    rw [hm] at lg_2 hRl ⊢
    clear hm
    go_wp2_with fail
    refine (BatchCut_spec B M w2 lx_2.out.at_ (by omega)).mono ?_
    rw [hR'.out]
    rintro e w3 ⟨v3, rfl, ho3, hb3⟩
    have lp_3 := hid (Lv.ofI ho3)
    have lx_3 := hid (lx_2.out.step hb3)
    have lg_3 := hid (lg_2.out.step hb3)
    have hB3 := hid (hB2.out.trans (hb3.mono hs2))
    have hs3 := hB3.out.size
    clear ho3 hb3 lx_2 lg_2 hB2
    obtain ⟨Ap, cp, rfl⟩ := lp_3.out.rd
    rw [hm'.out] at lp_3 ⊢
    cases hv : bvB xs B M with
    | false =>
      go_wp2_with fail
      refine (sameInts_any _ lg_3.out.at_ lp_3.out.at_ (by omega) (by omega)).mono ?_
      rw [sameB_refl]
      rintro e w4 ⟨rfl, hq⟩
      have lx_4 := hid (lx_3.out.quiet hq)
      have lg_4 := hid (lg_3.out.quiet hq)
      have lp_4 := hid (lp_3.out.quiet hq)
      have hB4 := hid (hB3.out.trans (hq.below _))
      have hs4 := hB4.out.size
      clear hq lx_3 lg_3 lp_3 hB3
      go_wp2_with fail
      refine (BatchesValid_spec B M w4 lx_4.out.at_ (by omega)).mono ?_
      rw [hv]
      rintro e w4' ⟨rfl, rfl⟩
      clear hv
      go_wp2_with fail
      refine (sameInts_any _ lg_4.out.at_ lp_4.out.at_ (by omega) (by omega)).mono ?_
      rw [sameB_refl]
      rintro e w5 ⟨rfl, hq⟩
      have hB5 := hid (hB4.out.trans (hq.below _))
      go_wp2
      go_ret
      exact ⟨rfl, hB5.out⟩
    | true =>
      have hv' := hid hv
      go_wp2_with fail
      refine (sameInts_any _ lg_3.out.at_ lp_3.out.at_ (by omega) (by omega)).mono ?_
      rw [sameB_refl]
      rintro e w4 ⟨rfl, hq⟩
      have lx_4 := hid (lx_3.out.quiet hq)
      have lg_4 := hid (lg_3.out.quiet hq)
      have lp_4 := hid (lp_3.out.quiet hq)
      have hB4 := hid (hB3.out.trans (hq.below _))
      have hs4 := hB4.out.size
      clear hq lx_3 lg_3 lp_3 hB3
      go_wp2_with fail
      refine (BatchesValid_spec B M w4 lx_4.out.at_ (by omega)).mono ?_
      rw [hv]
      rintro e w4' ⟨rfl, rfl⟩
      clear hv lp_4
      have hx := hid lx_4.out.at_
      have hpos := hid (cut_pos (xs := xs) (B := B) (M := M))
      have htot := hid (cut_tot hv'.out)
      have hbnd := hid (cut_in (xs := xs) (B := B) (M := M))
      rw [hR'.out] at hpos htot hbnd
      rw [hn'.out] at htot
      have hR20 : Hid (R.length ≤ 20) := hid (by rw [hm'.out]; exact hRl)
      have hw4 := hid (hid lg_4.out)
      clear lx_4 lg_4
      go_wp2
      go_loopw [8, 9] (fun s i wr => ∃ k a : Nat, k ≤ m ∧ i = .int .i64 k ∧ s = .int .i64 a ∧ a ≤ n ∧ Hid (tot (R.take k) = a) ∧ Hid (Below w4.heap.size w4 wr)) (fun _ i _ => m - (intOf i).toNat)
      case atStart => exact ⟨0, 0, by omega, rfl, rfl, by omega, hid (by simp [tot]), hid (Below.refl _ _)⟩
      case round =>
        obtain ⟨k, a, hk, rfl, rfl, han, ha, hbel⟩ := hrel
        have hrg := hid (hw4.out.out.step hbel.out).at_
        by_cases hlt : k < m
        · obtain ⟨adg, z, rfl, hz, hcz⟩ := RdI.at' hrg.out hlt
          have hlen : k < R.length := by rw [hm'.out]; omega
          have hzb := inB_true.1 (hbnd.out z (by rw [← hz.out]; exact getD_mem' hlen))
          have ht1 := tot_take_succ hlen hz.out
          have hle := tot_take_le hpos.out (k + 1)
          rw [ha.out] at ht1
          rw [htot.out] at hle
          have haz : (a : Int) + z ≤ n := by omega
          have hof : Hid (∀ x : Int, (a : Int) ≤ x → x < (a : Int) + z → ofR R x = k) := hid (fun x h1 h2 => ofR_at hR20.out hbnd.out hlen (by rw [ha.out]; exact h1) (by rw [ha.out, hz.out]; exact h2))
          obtain ⟨hz0, hz1⟩ := hzb
          obtain ⟨y, rfl⟩ := Int.eq_ofNat_of_zero_le (show 0 ≤ z by omega)
          have ht1 := hid ht1
          have hadl : (adg.add k).block < w4.heap.size := by
            obtain ⟨ad2, _, e2, _, hc2⟩ := RdI.at' hw4.out.out.at_ hlt
            injection e2 with e2
            subst e2
            exact World.block_lt_of_cell? _ _ hc2
          have hcell : Hid (∀ W, Below w4.heap.size w4 W → W.cell? (adg.add k) = some (.int .i64 (y : Int))) := hid (fun W hW => by
            have h1 := hbel.out.cell hadl
            rw [hW.cell hadl, ← h1]; exact hcz)
          clear hz hle hlen hcz hrg
          go_wp2
          go_loopw [10] (fun j wr => ∃ d : Nat, d ≤ y ∧ j = .int .i64 ((a + d : Nat) : Int) ∧ Hid (Below w4.heap.size w4 wr)) (fun j _ => a + y - (intOf j).toNat)
          case atStart => exact ⟨0, by omega, by simp, hbel⟩
          case round =>
            obtain ⟨d, hd, rfl, hbel2⟩ := hrel
            have hc2 := hcell.out _ hbel2.out
            by_cases hdy : d < y
            · have hrg2 := hid (hw4.out.out.step hbel2.out).at_
              have hq := hid (hof.out ((a + d : Nat) : Int) (by omega) (by omega))
              go_wp2_with fail
              refine (BatchOf_impl ((a + d : Nat) : Int) _ hrg2.out (Nat.le_refl _) (by omega)).mono ?_
              rw [hq.out]
              rintro e w7 ⟨rfl, hb7⟩
              have hbel3 := hid (hbel2.out.trans (hb7.mono hbel2.out.size))
              clear hb7 hrg2
              go_wp2
              go_roundw
              case rel => exact ⟨d + 1, by omega, by go_num, hbel3⟩
              case measure => simp [intOf]; omega
            · obtain rfl : d = y := by omega
              go_wp2
              go_roundw
              case rel => exact ⟨k + 1, a + d, by omega, by go_num, by go_num, by omega, hid (by rw [ht1.out]; omega), hbel2⟩
              case measure => simp [intOf]; omega
        · obtain rfl : k = m := by omega
          have hat : a = n := by
            have := ha.out
            rw [List.take_of_length_le (by rw [hm'.out]; omega), htot.out] at this
            omega
          subst hat
          have q1 := hid (ofR_out (x := (a : Int)) hR20.out hbnd.out (.inr (by rw [htot.out]; omega)))
          have q2 := hid (ofR_out (x := -1) hR20.out hbnd.out (.inl (by omega)))
          go_wp2_with fail
          refine (BatchOf_impl (a : Int) _ hrg.out (Nat.le_refl _) (by omega)).mono ?_
          rw [q1.out]
          rintro e w7 ⟨rfl, hb7⟩
          have hbel3 := hid (hbel.out.trans (hb7.mono hbel.out.size))
          have hrg3 := hid (hw4.out.out.step hbel3.out).at_
          clear hb7
          go_wp2_with fail
          refine (BatchOf_impl (-1) _ hrg3.out (Nat.le_refl _) (by omega)).mono ?_
          rw [q2.out]
          rintro e w8 ⟨rfl, hb8⟩
          have hbel4 := hid (hbel3.out.trans (hb8.mono hbel3.out.size))
          go_wp2
          go_ret
          exact ⟨rfl, hB4.out.trans (hbel4.out.mono hs4)⟩
  · go_enter Try.func6, Try.ntmps6
    go_wp2
    go_ret
    exact ⟨rfl, Below.refl _ _⟩

set_option maxHeartbeats 4000000 in
theorem lawBatchPrefix {a a' : Option Addr} {len cap len' cap' : Nat} {cs : List Int} (w : World) (h : RowIs .u8 w a len cap cs) :
    Calls Try.prog 7 #[.slice a len cap, .slice a' len' cap'] w fun e w' => e = .returned (.bool true) ∧ Below w.heap.size w w' := by
  have h' := hid h
  clear h
  by_cases hbig : len ≤ 1048576
  · by_cases hbig2 : len' ≤ 1048576
    · go_enter Try.func7, Try.ntmps7
      go_wp2_with fail
      refine (DrawBatchCut_any w h'.out).mono ?_
      rintro e w1 ⟨v, xs, B, M, rfl, ho1, hl1, hB0, hB9, hM0, hM9, hb1⟩
      have lx_1 := hid (Lv.ofI ho1)
      have hB1 := hid hb1
      have hs1 := hb1.size
      clear ho1 hb1
      obtain ⟨A, c, rfl⟩ := lx_1.out.rd
      obtain ⟨n, hn⟩ : ∃ n, xs.length = n := ⟨_, rfl⟩
      have hn' := hid hn
      rw [hn] at lx_1 hl1 ⊢
      clear hn
      obtain ⟨R, hR⟩ : ∃ R, cutR xs B M = R := ⟨_, rfl⟩
      have hR' := hid hR
      have hRl : R.length ≤ 20 := by rw [← hR]; exact cut_len
      clear hR
      go_wp2_with fail
      refine (BatchCut_impl B M w1 lx_1.out.at_ (Nat.le_refl _) (by omega)).mono ?_
      rw [hR'.out]
      rintro e w2 ⟨v2, rfl, ho2, hb2⟩
      have lg_2 := hid (Lv.ofI ho2)
      have lx_2 := hid (lx_1.out.step hb2)
      have hB2 := hid (hB1.out.trans (hb2.mono hs1))
      have hs2 := hB2.out.size
      clear ho2 hb2 lx_1 hB1
      obtain ⟨Ag, cg, rfl⟩ := lg_2.out.rd
      obtain ⟨m, hm⟩ : ∃ m, R.length = m := ⟨_, rfl⟩
      have hm' := hid hm
      rw [hm] at lg_2 hRl ⊢
      clear hm
      go_wp2_with fail
      refine (BatchCut_spec B M w2 lx_2.out.at_ (by omega)).mono ?_
      rw [hR'.out]
      rintro e w3 ⟨v3, rfl, ho3, hb3⟩
      have lp_3 := hid (Lv.ofI ho3)
      have lx_3 := hid (lx_2.out.step hb3)
      have lg_3 := hid (lg_2.out.step hb3)
      have hB3 := hid (hB2.out.trans (hb3.mono hs2))
      have hs3 := hB3.out.size
      clear ho3 hb3 lx_2 lg_2 hB2
      obtain ⟨Ap, cp, rfl⟩ := lp_3.out.rd
      rw [hm'.out] at lp_3 ⊢
      by_cases hg : m = 0
      · subst hg
        go_wp2_with fail
        refine (sameInts_any _ lg_3.out.at_ lp_3.out.at_ (by omega) (by omega)).mono ?_
        rw [sameB_refl]
        rintro e w4 ⟨rfl, hq⟩
        have lx_4 := hid (lx_3.out.quiet hq)
        have lg_4 := hid (lg_3.out.quiet hq)
        have lp_4 := hid (lp_3.out.quiet hq)
        have hB4 := hid (hB3.out.trans (hq.below _))
        have hs4 := hB4.out.size
        clear hq lx_3 lg_3 lp_3 hB3
        go_wp2_with fail
        refine (sameInts_any _ lg_4.out.at_ lp_4.out.at_ (by omega) (by omega)).mono ?_
        rw [sameB_refl]
        rintro e w5 ⟨rfl, hq⟩
        have hB5 := hid (hB4.out.trans (hq.below _))
        go_wp2
        go_ret
        exact ⟨rfl, hB5.out⟩
      · have hv : bvB xs B M = true := by
          cases hv : bvB xs B M with
          | true => rfl
          | false =>
            have h1 := hR'.out
            rw [cutR_no hv] at h1
            have h2 := hm'.out
            rw [← h1] at h2
            simp at h2
            omega
        have hv' := hid hv
        clear hv
        go_wp2_with fail
        refine (sameInts_any _ lg_3.out.at_ lp_3.out.at_ (by omega) (by omega)).mono ?_
        rw [sameB_refl]
        rintro e w4 ⟨rfl, hq⟩
        have lx_4 := hid (lx_3.out.quiet hq)
        have lg_4 := hid (lg_3.out.quiet hq)
        have lp_4 := hid (lp_3.out.quiet hq)
        have hB4 := hid (hB3.out.trans (hq.below _))
        have hs4 := hB4.out.size
        clear hq lx_3 lg_3 lp_3 hB3
        clear lp_4
        have hx := lx_4.out.at_
        obtain ⟨p1, p2, p3, p4, p5, p6, p7⟩ := bvB_true hv'.out
        rw [hn'.out] at p3
        have t1 : (len' : Int).tmod ((n : Int) + 1) = ((len' % (n + 1) : Nat) : Int) := by rw [Int.tmod_eq_emod_of_nonneg (by omega)]; simp
        obtain ⟨k, hk⟩ : ∃ k, len' % (n + 1) = k := ⟨_, rfl⟩
        have hkn : k ≤ n := by have := Nat.mod_lt len' (show 0 < n + 1 by omega); omega
        rw [hk] at t1
        have hcap := lx_4.out.capB.1
        have hne0 : (((n : Int) + 1) == 0) = false := by simp; omega
        have hpre := cut_pre hv'.out k
        rw [hR'.out] at hpre
        obtain ⟨S, hS⟩ : ∃ S, cutR (xs.take k) B M = S := ⟨_, rfl⟩
        have hSl : S.length ≤ 20 := by rw [← hS]; exact cut_len
        rw [hS] at hpre
        have hS := hid hS
        have hpre := hid hpre
        have hcut := hid (RdI.cutL hx hkn)
        have hx := hid hx
        clear p1 p2 hk
        go_wp2_with fail
        refine (BatchCut_impl B M w4 hcut.out (Nat.le_refl _) (by omega)).mono ?_
        rw [hS.out]
        rintro e w5 ⟨v5, rfl, ho5, hb5⟩
        have lz_5 := hid (Lv.ofI ho5)
        have hB5 := hid (hB4.out.trans (hb5.mono hs4))
        have lg_5 := hid (lg_4.out.step hb5)
        clear ho5 hb5 lx_4 lg_4 hB4
        obtain ⟨Az, cz, rfl⟩ := lz_5.out.rd
        obtain ⟨p, hp⟩ : ∃ p, S.length = p := ⟨_, rfl⟩
        have hp' := hid hp
        have hpm := hpre.out.len
        rw [hm'.out, hp] at hpm
        rw [hp] at lz_5 hSl ⊢
        have hz := hid lz_5.out.at_
        have hr := hid lg_5.out.at_
        clear hp
        go_wp2
        go_loopw [11] (fun i wr => ∃ j : Nat, j ≤ p ∧ i = .int .i64 j ∧ Qt w5 wr) (fun i _ => p - (intOf i).toNat)
        case atStart => exact ⟨0, Nat.zero_le _, rfl, Qt.refl _⟩
        case round =>
          obtain ⟨j, hj, rfl, hq⟩ := hrel
          by_cases hlt : j < p
          · obtain ⟨ad, x, rfl, hxx, hcx⟩ := RdI.at' (hq.reads hz.out) hlt
            obtain ⟨ad2, y, rfl, hyy, hcy⟩ := RdI.at' (hq.reads hr.out) (show j < m by omega)
            obtain ⟨h1, h2⟩ := hpre.out.at_ (i := j) (by rw [hp'.out]; exact hlt)
            rw [hxx.out, hyy.out] at h1 h2
            rw [hp'.out] at h2
            have hd1 : decide (y < x) = false := by simp; omega
            have h2 := hid h2
            clear hxx hyy
            by_cases hjp : j + 1 < p
            · have hxy : (x != y) = false := by have := h2.out hjp; simp [this]
              have hd2 : decide ((j : Int) + 1 < (p : Int)) = true := by simp; omega
              go_wp2
              go_quiet (fail)
              go_wp2
              go_roundw
              case rel => exact ⟨j + 1, by omega, by go_num, hq.drewN _⟩
              case measure => simp [intOf]; omega
            · have hd2 : decide ((j : Int) + 1 < (p : Int)) = false := by simp; omega
              go_wp2
              go_quiet (fail)
              go_wp2
              go_roundw
              case rel => exact ⟨j + 1, by omega, by go_num, hq.drewN _⟩
              case measure => simp [intOf]; omega
          · go_wp2
            go_ret
            exact ⟨rfl, hB5.out.trans (hq.below _)⟩
    · by_cases hb0 : len ≤ 1048576
      · go_enter Try.func7, Try.ntmps7
        go_wp2
        go_ret
        exact ⟨rfl, Below.refl _ _⟩
      · omega
  · go_enter Try.func7, Try.ntmps7
    go_wp2
    go_ret
    exact ⟨rfl, Below.refl _ _⟩

end Go.Proofs.Ytikjcpbhleejnaa
