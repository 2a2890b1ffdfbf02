/-
  The walks of the laws FnCommitIndex and FnCommitGrow. No condition.
-/
import Derived.Test.YtgejohkdgcoeeaaCmL
import Derived.Test.YtgejohkdgcoeeaaCmK
namespace Go.Proofs.Ytgejohkdgcoeeaa
open Go.RowKit

set_option maxHeartbeats 2000000 in
theorem lawCommitIndex {a : Option Addr} {len cap : Nat} {cs : List Int} (w : World) (h : RowIs .u8 w a len cap cs) :
    Calls Try.prog 3 #[.slice a len cap] w fun e w' => e = .returned (.bool true) ∧ Below w.heap.size w w' := by
  have h' := hid h
  clear h
  by_cases hbig : len ≤ 1048576
  · go_enter Try.func3, Try.ntmps3
    go_wp2_with fail
    refine (DrawCommitIndex_any w h'.out).mono ?_
    rintro e w1 ⟨v, xs, rfl, ho1, hl1, hb1⟩
    have la_1 := hid (Lv.ofI ho1)
    have hB1 := hid hb1
    clear ho1 hb1
    obtain ⟨A, c, rfl⟩ := la_1.out.rd
    go_wp2_with fail
    refine (CommitIndex_impl _ la_1.out.at_ (Nat.le_refl _) (by omega)).mono ?_
    rintro e w2 ⟨r, rfl, hc, hb⟩
    have la_2 := hid (la_1.out.step hb)
    have hB2 := hid (hB1.out.trans (hb.mono hB1.out.size))
    have hr2 := hid la_2.out.at_
    have hc' := hid hc
    clear hb la_1 la_2 hB1
    go_wp2_with fail
    refine (CommitIndex_spec _ hr2.out (by omega)).mono ?_
    rintro e w3 ⟨r2, rfl, hc2, rfl⟩
    obtain rfl : r = r2 := hc'.out.uniq hc2
    have hrr : (r != r) = false := by simp
    clear hc2
    cases hv : lvB xs with
    | false =>
      obtain rfl : r = -1 := hc'.out.2 hv
      go_wp2
      go_ret
      exact ⟨rfl, hB2.out⟩
    | true =>
      have hi := hid (hc'.out.1 hv)
      have hr0 := hi.out.1
      have hr9 := hi.out.2.1
      have hl' := hid hr2.out.len
      obtain ⟨n, hn⟩ : ∃ n, xs.length = n := ⟨_, rfl⟩
      have hn' := hid hn
      rw [hn] at hr2 hl1 ⊢
      clear hn hv hc'
      go_wp2
      go_loop [6, 7, 8] (fun x y i => ∃ k p q : Nat, k ≤ n ∧ i = .int .i64 k ∧ x = .int .i64 p ∧ y = .int .i64 q ∧ p ≤ k ∧ q ≤ k ∧ Hid (p = hav (xs.take k) r) ∧ Hid (q = hav (xs.take k) (r + 1))) (fun _ _ i => n - (intOf i).toNat)
      case atStart => exact ⟨0, 0, 0, Nat.zero_le _, rfl, rfl, rfl, Nat.le_refl _, Nat.le_refl _, hid (by simp [hav]), hid (by simp [hav])⟩
      case round =>
        obtain ⟨k, p, q, hk, rfl, rfl, rfl, hpk, hqk, hp, hq⟩ := hrel
        by_cases hlt : k < n
        · obtain ⟨ad, z, rfl, hz, hc⟩ := RdI.at' hr2.out hlt
          have hs1 := hav_take_succ r (by rw [hn'.out]; exact hlt) hz.out
          have hs2 := hav_take_succ (r + 1) (by rw [hn'.out]; exact hlt) hz.out
          rw [← hp.out] at hs1
          rw [← hq.out] at hs2
          have hs1' := hid hs1
          have hs2' := hid hs2
          clear hs1 hs2
          by_cases hg : r ≤ z
          · by_cases hg2 : r < z
            · have e1 := hid (show p + 1 = hav (xs.take (k + 1)) r by rw [hs1'.out, if_pos hg])
              have e2 := hid (show q + 1 = hav (xs.take (k + 1)) (r + 1) by rw [hs2'.out, if_pos (by omega)])
              go_wp2
              go_round
              case rel => exact ⟨k + 1, p + 1, q + 1, by omega, by go_num, by go_num, by go_num, by omega, by omega, e1, e2⟩
              case measure => simp [intOf]; omega
            · have e1 := hid (show p + 1 = hav (xs.take (k + 1)) r by rw [hs1'.out, if_pos hg])
              have e2 := hid (show q = hav (xs.take (k + 1)) (r + 1) by rw [hs2'.out, if_neg (by omega)]; rfl)
              go_wp2
              go_round
              case rel => exact ⟨k + 1, p + 1, q, by omega, by go_num, by go_num, rfl, by omega, by omega, e1, e2⟩
              case measure => simp [intOf]; omega
          · have hg2 : ¬ r < z := by omega
            have e1 := hid (show p = hav (xs.take (k + 1)) r by rw [hs1'.out, if_neg hg]; rfl)
            have e2 := hid (show q = hav (xs.take (k + 1)) (r + 1) by rw [hs2'.out, if_neg (by omega)]; rfl)
            go_wp2
            go_round
            case rel => exact ⟨k + 1, p, q, by omega, by go_num, rfl, rfl, by omega, by omega, e1, e2⟩
            case measure => simp [intOf]; omega
        · have hfull : xs.take k = xs := List.take_of_length_le (by rw [hn'.out]; omega)
          have e1 := hi.out.2.2
          rw [hn'.out, ← hfull, ← hp.out, ← hq.out] at e1
          obtain ⟨e2, e3⟩ := e1
          have e2' : (n : Int) < 2 * (p : Int) := by omega
          clear hfull
          by_cases h99 : r = 99
          · subst h99
            by_cases hq2 : 2 * (q : Int) ≤ (n : Int)
            · go_wp2
              go_ret
              exact ⟨rfl, hB2.out⟩
            · go_wp2
              go_ret
              exact ⟨rfl, hB2.out⟩
          · have hq2 : 2 * (q : Int) ≤ (n : Int) := by omega
            clear e3
            go_wp2
            go_ret
            exact ⟨rfl, hB2.out⟩
  · go_enter Try.func3, Try.ntmps3
    go_wp2
    go_ret
    exact ⟨rfl, Below.refl _ _⟩

theorem set_getD {xs : List Int} {k i : Nat} {z : Int} (hk : k < xs.length) : (xs.set k z).getD i 0 = if i = k then z else xs.getD i 0 := by
  by_cases e : i = k
  · subst e; simp [hk]
  · have : k ≠ i := fun h => e h.symm
    simp [e, this]

theorem grow_cix {xs : List Int} {k : Nat} {z r n2 : Int} (hv : lvB xs = true) (hk : k < xs.length) (hz : xs.getD k 0 = z) (h99 : z ≠ 99) (hi : IsCix xs r) (hc : CixR (xs.set k (z + 1)) n2) : r ≤ n2 ∧ n2 ≤ r + 1 := by
  obtain ⟨h1, h7, hb⟩ := lvB_true hv
  have hzb := hb _ (getD_mem hk)
  rw [hz] at hzb
  have hv2 : lvB (xs.set k (z + 1)) = true := lvB_of (by simpa using h1) (by simpa using h7) fun y hy => by
    obtain ⟨i, hi2, e⟩ := mem_getD hy
    rw [set_getD hk] at e
    rw [List.length_set] at hi2
    split at e
    · omega
    · have := hb _ (getD_mem hi2); omega
  have hj := hc.1 hv2
  refine ⟨hj.le ?_ hi.2.1, ?_⟩
  · have := hav_mono (xs := xs) (ys := xs.set k (z + 1)) (by simp) r r (fun i hi2 h => by
      rw [set_getD hk]; split
      · rename_i e; rw [e, hz] at h; omega
      · exact h)
    have := hi.2.2.1
    rw [List.length_set]; omega
  · by_cases e : n2 ≤ r + 1
    · exact e
    · have a1 := hav_mono (xs := xs.set k (z + 1)) (ys := xs) (by simp) (r + 2) (r + 1) (fun i hi2 h => by
        rw [set_getD hk] at h; split at h
        · rename_i e; rw [e, hz]; omega
        · omega)
      have a2 := hav_anti (zs := xs.set k (z + 1)) (show r + 2 ≤ n2 by omega)
      have a3 := hj.2.2.1
      have a4 := hj.2.1
      have a5 := hi.2.2.2
      rw [List.length_set] at a3
      omega

set_option maxHeartbeats 4000000 in
theorem lawCommitGrow {a a' : Option Addr} {len cap len' cap' : Nat} {cs : List Int} (w : World) (h : RowIs .u8 w a len cap cs) :
    Calls Try.prog 9 #[.slice a len cap, .slice a' len' cap'] w fun e w' => e = .returned (.bool true) ∧ Below w.heap.size w w' := by
  have h' := hid h
  clear h
  by_cases hbig : len ≤ 1048576
  · by_cases hbig2 : len' ≤ 1048576
    · go_enter Try.func9, Try.ntmps9
      go_wp2_with fail
      refine (DrawCommitIndex_any w h'.out).mono ?_
      rintro e w1 ⟨v, xs, rfl, ho1, hl1, hb1⟩
      have la_1 := hid (Lv.ofI ho1)
      have hB1 := hid hb1
      clear ho1 hb1
      obtain ⟨A, c, rfl⟩ := la_1.out.rd
      go_wp2_with fail
      refine (CommitIndex_impl _ la_1.out.at_ (Nat.le_refl _) (by omega)).mono ?_
      rintro e w2 ⟨r, rfl, hc, hb⟩
      have la_2 := hid (la_1.out.step hb)
      have hB2 := hid (hB1.out.trans (hb.mono hB1.out.size))
      have hr2 := hid la_2.out.at_
      have hc' := hid hc
      clear hb la_1 la_2 hB1
      go_wp2_with fail
      refine (CommitIndex_spec _ hr2.out (by omega)).mono ?_
      rintro e w3 ⟨r2, rfl, hc2, rfl⟩
      obtain rfl : r = r2 := hc'.out.uniq hc2
      have hrr : (r != r) = false := by simp
      clear hc2
      cases hv : lvB xs with
      | false =>
        obtain rfl : r = -1 := hc'.out.2 hv
        go_wp2
        go_ret
        exact ⟨rfl, hB2.out⟩
      | true =>
        have hi := hid (hc'.out.1 hv)
        have hr0 := hi.out.1
        have hr9 := hi.out.2.1
        have hl' := hid hr2.out.len
        have hn1 := (lvB_true hv).1
        obtain ⟨n, hn⟩ : ∃ n, xs.length = n := ⟨_, rfl⟩
        have hn' := hid hn
        have hv' := hid hv
        rw [hn] at hr2 hl1 hn1 ⊢
        clear hn hv hc'
        have t1 : (len' : Int).tmod (n : Int) = ((len' % n : Nat) : Int) := by rw [Int.tmod_eq_emod_of_nonneg (by omega)]; simp
        obtain ⟨k, hk⟩ : ∃ k, len' % n = k := ⟨_, rfl⟩
        have hkn : k < n := by rw [← hk]; exact Nat.mod_lt _ (by omega)
        rw [hk] at t1
        have hne0 : ((n : Int) == 0) = false := by simp; omega
        obtain ⟨ad, z, rfl, hz, hc⟩ := RdI.at' hr2.out hkn
        clear hk
        by_cases h99 : z = 99
        · subst h99
          go_wp2
          go_ret
          exact ⟨rfl, hB2.out⟩
        · have h99' : (z == 99) = false := by simpa using h99
          have hzb := (lvB_true hv'.out).2.2 z (by rw [← hz.out]; exact getD_mem (by rw [hn'.out]; exact hkn))
          have hs2 := hB2.out.size
          have hE0 := hid (OwI.empty_lit (B := w.heap.size) w2 hs2)
          have hr2a := hid (Reads.alloc hr2.out (Nat.le_refl _) (.cells #[] 3))
          have hs2a : w.heap.size ≤ (w2.alloc (.cells #[] 3)).heap.size := by simp; omega
          have hB2a := hid (hB2.out.alloc hs2 (.cells #[] 3))
          go_wp2_with (at_builtin; refine wpList_appN rfl (.tmp 45) (.tmp 46) rfl w.heap.size w2.heap.size _ [] xs ad n c rfl rfl hE0.out hr2a.out (by omega) hs2a (by decide) (by omega) ?_; intro v4 w4 ho4 hb4)
          rw [List.nil_append] at ho4
          have hB4 := hid (hB2a.out.trans hb4)
          obtain ⟨b, cap4, rfl, hbl, hbs⟩ := ho4.row (by rw [hn'.out]; omega)
          have ho4' : Hid (w4.ownsRow w.heap.size 3 1 (.slice (some ⟨b, 0, none⟩) n cap4) n (ints xs)) := hid (by
            rw [OwI, hn'.out] at ho4; exact ho4)
          rw [hn'.out]
          clear ho4 hb4 hc hE0 hr2a
          have hcell : w4.cell? ⟨b, k, none⟩ = some (.int .i64 z) := by
            rw [ho4'.out.cellAt k (by omega)]
            have : k < xs.length := by rw [hn'.out]; exact hkn
            have := hz.out
            simp [ints, *]
            simpa [*] using this
          have hfr : w4.frozen? ⟨b, k, none⟩ = false := ho4'.out.frozenAt k
          have hst := hid (ho4'.out.stored k (.int .i64 (z + 1)))
          have hB5 := hid (hB4.out.setCell (p := ⟨b, k, none⟩) hbl (.int .i64 (z + 1)))
          have hr5 : Hid (RdI (w4.setCell ⟨b, k, none⟩ (.int .i64 (z + 1))) (w4.setCell ⟨b, k, none⟩ (.int .i64 (z + 1))).heap.size (some ⟨b, 0, none⟩) n (xs.set k (z + 1))) := hid (by
            have := Reads.of_own (c := cap4) hst.out.1
            rw [← List.map_set] at this
            exact this)
          obtain ⟨hz0, hz1⟩ := hzb
          have hk0 : (0 : Int) ≤ (k : Int) := by omega
          have hk1 : (k : Int) < (n : Int) := by omega
          have hk2 : ((k : Int)).toNat = k := by omega
          go_wp2_with fail
          go_simp
          go_wp2_with fail
          refine (CommitIndex_impl _ hr5.out (Nat.le_refl _) (by omega)).mono ?_
          rintro e w6 ⟨n2, rfl, hc6, hb6⟩
          have hB6 := hid (hB5.out.trans (hb6.mono hB5.out.size))
          have hq := grow_cix hv'.out (by rw [hn'.out]; exact hkn) hz.out h99 hi.out hc6
          obtain ⟨hq1, hq2⟩ := hq
          clear hb6 hc6
          go_wp2
          go_ret
          exact ⟨rfl, hB6.out⟩
    · by_cases hb0 : len ≤ 1048576
      · go_enter Try.func9, Try.ntmps9
        go_wp2
        go_ret
        exact ⟨rfl, Below.refl _ _⟩
      · omega
  · go_enter Try.func9, Try.ntmps9
    go_wp2
    go_ret
    exact ⟨rfl, Below.refl _ _⟩
end Go.Proofs.Ytgejohkdgcoeeaa
