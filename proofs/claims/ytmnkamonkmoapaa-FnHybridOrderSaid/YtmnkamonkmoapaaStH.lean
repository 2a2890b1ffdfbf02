/-
  The walks of the laws FnStampOrder and FnHybridOrder. No condition.
-/
import Derived.Test.YtmnkamonkmoapaaStG
namespace Go.Proofs.Ytmnkamonkmoapaa
open Go.RowKit

set_option maxHeartbeats 2000000 in
theorem lawStampOrder {a : Option Addr} {len cap : Nat} {zs : List Int} (w : World) (h : RowIs .u8 w a len cap zs) :
    Calls Try.prog 3 #[.slice a len cap] w fun e w' => e = .returned (.bool true) ∧ Below w.heap.size w w' := by
  have hl : len ≤ 9223372036854775807 := by
    rcases h with ⟨rfl, rfl, rfl, rfl⟩ | ⟨x, rfl, hl, hm, _⟩
    · omega
    · unfold maxLen at hm; omega
  by_cases hbig : 1048576 < len
  · clear h
    go_enter Try.func3, Try.ntmps3
    go_wp2
    go_ret
    exact ⟨rfl, Below.refl _ _⟩
  · have h' := hid h
    clear h
    go_enter Try.func3, Try.ntmps3
    go_wp2_with fail
    refine (DrawStampLess_any w h'.out).mono ?_
    rintro e w1 ⟨t, k, u, h, rfl, hb1⟩
    have hw1 := hb1.size
    have hB1 := hid hb1
    clear hb1
    cases h1 : stB t k with
    | false =>
      have hr := hid (stL_no1 (u := u) (h := h) h1)
      replace h1 := hid h1
      go_wp2_with fail
      refine (StampLess_impl _ _ _ _ _).mono ?_
      rw [hr.out]
      rintro e w2 ⟨rfl, hb2⟩
      obtain ⟨hc2, hf2⟩ := bcell hb2
      have hz2 := hb2.size
      (try simp at hz2)
      have hs2_0 : w1.heap.size < w2.heap.size := by omega
      have hs2_1 : w1.heap.size + 1 < w2.heap.size := by omega
      have hw2 : w.heap.size ≤ w2.heap.size := by omega
      have hB2 := hid (((hB1.out.alloc (by omega) _).alloc (by simp; omega) _).trans (hb2.mono (by (try simp); omega)))
      clear hb2
      go_wp2_with fail
      refine (StampLess_spec _ _ _ _ _).mono ?_
      rw [hr.out]
      rintro e w3 ⟨rfl, hb3⟩
      obtain ⟨hc3, hf3⟩ := bcell hb3
      have hz3 := hb3.size
      have hs3_0 : w1.heap.size < w3.heap.size := by omega
      have hs3_1 : w1.heap.size + 1 < w3.heap.size := by omega
      have hw3 : w.heap.size ≤ w3.heap.size := by omega
      have hB3 := hid (hB2.out.trans (hb3.mono (by omega)))
      clear hb3
      go_wp2_with fail
      refine (StampValid_spec _ _ _).mono ?_
      rw [h1.out]
      rintro e w4 ⟨rfl, hb4⟩
      obtain ⟨hc4, hf4⟩ := bcell hb4
      have hz4 := hb4.size
      have hs4_0 : w1.heap.size < w4.heap.size := by omega
      have hs4_1 : w1.heap.size + 1 < w4.heap.size := by omega
      have hw4 : w.heap.size ≤ w4.heap.size := by omega
      have hB4 := hid (hB3.out.trans (hb4.mono (by omega)))
      clear hb4
      go_wp2
      go_ret
      exact ⟨rfl, hB4.out⟩
    | true =>
      cases h2 : stB u h with
      | false =>
        have hr := hid (stL_no2 (t := t) (g := k) h2)
        replace h1 := hid h1
        replace h2 := hid h2
        go_wp2_with fail
        refine (StampLess_impl _ _ _ _ _).mono ?_
        rw [hr.out]
        rintro e w2 ⟨rfl, hb2⟩
        obtain ⟨hc2, hf2⟩ := bcell hb2
        have hz2 := hb2.size
        (try simp at hz2)
        have hs2_0 : w1.heap.size < w2.heap.size := by omega
        have hs2_1 : w1.heap.size + 1 < w2.heap.size := by omega
        have hw2 : w.heap.size ≤ w2.heap.size := by omega
        have hB2 := hid (((hB1.out.alloc (by omega) _).alloc (by simp; omega) _).trans (hb2.mono (by (try simp); omega)))
        clear hb2
        go_wp2_with fail
        refine (StampLess_spec _ _ _ _ _).mono ?_
        rw [hr.out]
        rintro e w3 ⟨rfl, hb3⟩
        obtain ⟨hc3, hf3⟩ := bcell hb3
        have hz3 := hb3.size
        have hs3_0 : w1.heap.size < w3.heap.size := by omega
        have hs3_1 : w1.heap.size + 1 < w3.heap.size := by omega
        have hw3 : w.heap.size ≤ w3.heap.size := by omega
        have hB3 := hid (hB2.out.trans (hb3.mono (by omega)))
        clear hb3
        go_wp2_with fail
        refine (StampValid_spec _ _ _).mono ?_
        rw [h1.out]
        rintro e w4 ⟨rfl, hb4⟩
        obtain ⟨hc4, hf4⟩ := bcell hb4
        have hz4 := hb4.size
        have hs4_0 : w1.heap.size < w4.heap.size := by omega
        have hs4_1 : w1.heap.size + 1 < w4.heap.size := by omega
        have hw4 : w.heap.size ≤ w4.heap.size := by omega
        have hB4 := hid (hB3.out.trans (hb4.mono (by omega)))
        clear hb4
        go_wp2_with fail
        refine (StampValid_spec _ _ _).mono ?_
        rw [h2.out]
        rintro e w5 ⟨rfl, hb5⟩
        obtain ⟨hc5, hf5⟩ := bcell hb5
        have hz5 := hb5.size
        have hs5_0 : w1.heap.size < w5.heap.size := by omega
        have hs5_1 : w1.heap.size + 1 < w5.heap.size := by omega
        have hw5 : w.heap.size ≤ w5.heap.size := by omega
        have hB5 := hid (hB4.out.trans (hb5.mono (by omega)))
        clear hb5
        go_wp2
        go_ret
        exact ⟨rfl, hB5.out⟩
      | true =>
        rcases (show t < u ∨ (t = u ∧ k < h) ∨ u < t ∨ (t = u ∧ h < k) ∨ (t = u ∧ k = h) by omega) with e | ⟨rfl, e⟩ | e | ⟨rfl, e⟩ | ⟨rfl, rfl⟩
        · have hr := hid (show stL t k u h = true by rw [stL_yes h1 h2]; exact lexB_true.2 (by omega))
          have hq := hid (show stL u h t k = false by rw [stL_yes h2 h1]; exact lexB_false.2 (by omega))
          replace h1 := hid h1
          replace h2 := hid h2
          go_wp2_with fail
          refine (StampLess_impl _ _ _ _ _).mono ?_
          rw [hr.out]
          rintro e w2 ⟨rfl, hb2⟩
          obtain ⟨hc2, hf2⟩ := bcell hb2
          have hz2 := hb2.size
          (try simp at hz2)
          have hs2_0 : w1.heap.size < w2.heap.size := by omega
          have hs2_1 : w1.heap.size + 1 < w2.heap.size := by omega
          have hw2 : w.heap.size ≤ w2.heap.size := by omega
          have hB2 := hid (((hB1.out.alloc (by omega) _).alloc (by simp; omega) _).trans (hb2.mono (by (try simp); omega)))
          clear hb2
          go_wp2_with fail
          refine (StampLess_spec _ _ _ _ _).mono ?_
          rw [hr.out]
          rintro e w3 ⟨rfl, hb3⟩
          obtain ⟨hc3, hf3⟩ := bcell hb3
          have hz3 := hb3.size
          have hs3_0 : w1.heap.size < w3.heap.size := by omega
          have hs3_1 : w1.heap.size + 1 < w3.heap.size := by omega
          have hw3 : w.heap.size ≤ w3.heap.size := by omega
          have hB3 := hid (hB2.out.trans (hb3.mono (by omega)))
          clear hb3
          go_wp2_with fail
          refine (StampValid_spec _ _ _).mono ?_
          rw [h1.out]
          rintro e w4 ⟨rfl, hb4⟩
          obtain ⟨hc4, hf4⟩ := bcell hb4
          have hz4 := hb4.size
          have hs4_0 : w1.heap.size < w4.heap.size := by omega
          have hs4_1 : w1.heap.size + 1 < w4.heap.size := by omega
          have hw4 : w.heap.size ≤ w4.heap.size := by omega
          have hB4 := hid (hB3.out.trans (hb4.mono (by omega)))
          clear hb4
          go_wp2_with fail
          refine (StampValid_spec _ _ _).mono ?_
          rw [h2.out]
          rintro e w5 ⟨rfl, hb5⟩
          obtain ⟨hc5, hf5⟩ := bcell hb5
          have hz5 := hb5.size
          have hs5_0 : w1.heap.size < w5.heap.size := by omega
          have hs5_1 : w1.heap.size + 1 < w5.heap.size := by omega
          have hw5 : w.heap.size ≤ w5.heap.size := by omega
          have hB5 := hid (hB4.out.trans (hb5.mono (by omega)))
          clear hb5
          go_wp2_with fail
          refine (StampLess_impl _ _ _ _ _).mono ?_
          rw [hq.out]
          rintro e w6 ⟨rfl, hb6⟩
          obtain ⟨hc6, hf6⟩ := bcell hb6
          have hz6 := hb6.size
          have hs6_0 : w1.heap.size < w6.heap.size := by omega
          have hs6_1 : w1.heap.size + 1 < w6.heap.size := by omega
          have hw6 : w.heap.size ≤ w6.heap.size := by omega
          have hB6 := hid (hB5.out.trans (hb6.mono (by omega)))
          clear hb6
          go_wp2
          go_ret
          exact ⟨rfl, hB6.out⟩
        · have hr := hid (show stL t k t h = true by rw [stL_yes h1 h2]; exact lexB_true.2 (by omega))
          have hq := hid (show stL t h t k = false by rw [stL_yes h2 h1]; exact lexB_false.2 (by omega))
          replace h1 := hid h1
          replace h2 := hid h2
          go_wp2_with fail
          refine (StampLess_impl _ _ _ _ _).mono ?_
          rw [hr.out]
          rintro e w2 ⟨rfl, hb2⟩
          obtain ⟨hc2, hf2⟩ := bcell hb2
          have hz2 := hb2.size
          (try simp at hz2)
          have hs2_0 : w1.heap.size < w2.heap.size := by omega
          have hs2_1 : w1.heap.size + 1 < w2.heap.size := by omega
          have hw2 : w.heap.size ≤ w2.heap.size := by omega
          have hB2 := hid (((hB1.out.alloc (by omega) _).alloc (by simp; omega) _).trans (hb2.mono (by (try simp); omega)))
          clear hb2
          go_wp2_with fail
          refine (StampLess_spec _ _ _ _ _).mono ?_
          rw [hr.out]
          rintro e w3 ⟨rfl, hb3⟩
          obtain ⟨hc3, hf3⟩ := bcell hb3
          have hz3 := hb3.size
          have hs3_0 : w1.heap.size < w3.heap.size := by omega
          have hs3_1 : w1.heap.size + 1 < w3.heap.size := by omega
          have hw3 : w.heap.size ≤ w3.heap.size := by omega
          have hB3 := hid (hB2.out.trans (hb3.mono (by omega)))
          clear hb3
          go_wp2_with fail
          refine (StampValid_spec _ _ _).mono ?_
          rw [h1.out]
          rintro e w4 ⟨rfl, hb4⟩
          obtain ⟨hc4, hf4⟩ := bcell hb4
          have hz4 := hb4.size
          have hs4_0 : w1.heap.size < w4.heap.size := by omega
          have hs4_1 : w1.heap.size + 1 < w4.heap.size := by omega
          have hw4 : w.heap.size ≤ w4.heap.size := by omega
          have hB4 := hid (hB3.out.trans (hb4.mono (by omega)))
          clear hb4
          go_wp2_with fail
          refine (StampValid_spec _ _ _).mono ?_
          rw [h2.out]
          rintro e w5 ⟨rfl, hb5⟩
          obtain ⟨hc5, hf5⟩ := bcell hb5
          have hz5 := hb5.size
          have hs5_0 : w1.heap.size < w5.heap.size := by omega
          have hs5_1 : w1.heap.size + 1 < w5.heap.size := by omega
          have hw5 : w.heap.size ≤ w5.heap.size := by omega
          have hB5 := hid (hB4.out.trans (hb5.mono (by omega)))
          clear hb5
          go_wp2_with fail
          refine (StampLess_impl _ _ _ _ _).mono ?_
          rw [hq.out]
          rintro e w6 ⟨rfl, hb6⟩
          obtain ⟨hc6, hf6⟩ := bcell hb6
          have hz6 := hb6.size
          have hs6_0 : w1.heap.size < w6.heap.size := by omega
          have hs6_1 : w1.heap.size + 1 < w6.heap.size := by omega
          have hw6 : w.heap.size ≤ w6.heap.size := by omega
          have hB6 := hid (hB5.out.trans (hb6.mono (by omega)))
          clear hb6
          go_wp2
          go_ret
          exact ⟨rfl, hB6.out⟩
        · have hr := hid (show stL t k u h = false by rw [stL_yes h1 h2]; exact lexB_false.2 (by omega))
          have hq := hid (show stL u h t k = true by rw [stL_yes h2 h1]; exact lexB_true.2 (by omega))
          replace h1 := hid h1
          replace h2 := hid h2
          go_wp2_with fail
          refine (StampLess_impl _ _ _ _ _).mono ?_
          rw [hr.out]
          rintro e w2 ⟨rfl, hb2⟩
          obtain ⟨hc2, hf2⟩ := bcell hb2
          have hz2 := hb2.size
          (try simp at hz2)
          have hs2_0 : w1.heap.size < w2.heap.size := by omega
          have hs2_1 : w1.heap.size + 1 < w2.heap.size := by omega
          have hw2 : w.heap.size ≤ w2.heap.size := by omega
          have hB2 := hid (((hB1.out.alloc (by omega) _).alloc (by simp; omega) _).trans (hb2.mono (by (try simp); omega)))
          clear hb2
          go_wp2_with fail
          refine (StampLess_spec _ _ _ _ _).mono ?_
          rw [hr.out]
          rintro e w3 ⟨rfl, hb3⟩
          obtain ⟨hc3, hf3⟩ := bcell hb3
          have hz3 := hb3.size
          have hs3_0 : w1.heap.size < w3.heap.size := by omega
          have hs3_1 : w1.heap.size + 1 < w3.heap.size := by omega
          have hw3 : w.heap.size ≤ w3.heap.size := by omega
          have hB3 := hid (hB2.out.trans (hb3.mono (by omega)))
          clear hb3
          go_wp2_with fail
          refine (StampValid_spec _ _ _).mono ?_
          rw [h1.out]
          rintro e w4 ⟨rfl, hb4⟩
          obtain ⟨hc4, hf4⟩ := bcell hb4
          have hz4 := hb4.size
          have hs4_0 : w1.heap.size < w4.heap.size := by omega
          have hs4_1 : w1.heap.size + 1 < w4.heap.size := by omega
          have hw4 : w.heap.size ≤ w4.heap.size := by omega
          have hB4 := hid (hB3.out.trans (hb4.mono (by omega)))
          clear hb4
          go_wp2_with fail
          refine (StampValid_spec _ _ _).mono ?_
          rw [h2.out]
          rintro e w5 ⟨rfl, hb5⟩
          obtain ⟨hc5, hf5⟩ := bcell hb5
          have hz5 := hb5.size
          have hs5_0 : w1.heap.size < w5.heap.size := by omega
          have hs5_1 : w1.heap.size + 1 < w5.heap.size := by omega
          have hw5 : w.heap.size ≤ w5.heap.size := by omega
          have hB5 := hid (hB4.out.trans (hb5.mono (by omega)))
          clear hb5
          go_wp2_with fail
          refine (StampLess_impl _ _ _ _ _).mono ?_
          rw [hq.out]
          rintro e w6 ⟨rfl, hb6⟩
          obtain ⟨hc6, hf6⟩ := bcell hb6
          have hz6 := hb6.size
          have hs6_0 : w1.heap.size < w6.heap.size := by omega
          have hs6_1 : w1.heap.size + 1 < w6.heap.size := by omega
          have hw6 : w.heap.size ≤ w6.heap.size := by omega
          have hB6 := hid (hB5.out.trans (hb6.mono (by omega)))
          clear hb6
          go_wp2
          go_ret
          exact ⟨rfl, hB6.out⟩
        · have hr := hid (show stL t k t h = false by rw [stL_yes h1 h2]; exact lexB_false.2 (by omega))
          have hq := hid (show stL t h t k = true by rw [stL_yes h2 h1]; exact lexB_true.2 (by omega))
          replace h1 := hid h1
          replace h2 := hid h2
          go_wp2_with fail
          refine (StampLess_impl _ _ _ _ _).mono ?_
          rw [hr.out]
          rintro e w2 ⟨rfl, hb2⟩
          obtain ⟨hc2, hf2⟩ := bcell hb2
          have hz2 := hb2.size
          (try simp at hz2)
          have hs2_0 : w1.heap.size < w2.heap.size := by omega
          have hs2_1 : w1.heap.size + 1 < w2.heap.size := by omega
          have hw2 : w.heap.size ≤ w2.heap.size := by omega
          have hB2 := hid (((hB1.out.alloc (by omega) _).alloc (by simp; omega) _).trans (hb2.mono (by (try simp); omega)))
          clear hb2
          go_wp2_with fail
          refine (StampLess_spec _ _ _ _ _).mono ?_
          rw [hr.out]
          rintro e w3 ⟨rfl, hb3⟩
          obtain ⟨hc3, hf3⟩ := bcell hb3
          have hz3 := hb3.size
          have hs3_0 : w1.heap.size < w3.heap.size := by omega
          have hs3_1 : w1.heap.size + 1 < w3.heap.size := by omega
          have hw3 : w.heap.size ≤ w3.heap.size := by omega
          have hB3 := hid (hB2.out.trans (hb3.mono (by omega)))
          clear hb3
          go_wp2_with fail
          refine (StampValid_spec _ _ _).mono ?_
          rw [h1.out]
          rintro e w4 ⟨rfl, hb4⟩
          obtain ⟨hc4, hf4⟩ := bcell hb4
          have hz4 := hb4.size
          have hs4_0 : w1.heap.size < w4.heap.size := by omega
          have hs4_1 : w1.heap.size + 1 < w4.heap.size := by omega
          have hw4 : w.heap.size ≤ w4.heap.size := by omega
          have hB4 := hid (hB3.out.trans (hb4.mono (by omega)))
          clear hb4
          go_wp2_with fail
          refine (StampValid_spec _ _ _).mono ?_
          rw [h2.out]
          rintro e w5 ⟨rfl, hb5⟩
          obtain ⟨hc5, hf5⟩ := bcell hb5
          have hz5 := hb5.size
          have hs5_0 : w1.heap.size < w5.heap.size := by omega
          have hs5_1 : w1.heap.size + 1 < w5.heap.size := by omega
          have hw5 : w.heap.size ≤ w5.heap.size := by omega
          have hB5 := hid (hB4.out.trans (hb5.mono (by omega)))
          clear hb5
          go_wp2_with fail
          refine (StampLess_impl _ _ _ _ _).mono ?_
          rw [hq.out]
          rintro e w6 ⟨rfl, hb6⟩
          obtain ⟨hc6, hf6⟩ := bcell hb6
          have hz6 := hb6.size
          have hs6_0 : w1.heap.size < w6.heap.size := by omega
          have hs6_1 : w1.heap.size + 1 < w6.heap.size := by omega
          have hw6 : w.heap.size ≤ w6.heap.size := by omega
          have hB6 := hid (hB5.out.trans (hb6.mono (by omega)))
          clear hb6
          go_wp2
          go_ret
          exact ⟨rfl, hB6.out⟩
        · have hr := hid (show stL t k t k = false by rw [stL_yes h1 h2]; exact lexB_false.2 (by omega))
          have hq := hid (show stL t k t k = false by rw [stL_yes h2 h1]; exact lexB_false.2 (by omega))
          replace h1 := hid h1
          replace h2 := hid h2
          go_wp2_with fail
          refine (StampLess_impl _ _ _ _ _).mono ?_
          rw [hr.out]
          rintro e w2 ⟨rfl, hb2⟩
          obtain ⟨hc2, hf2⟩ := bcell hb2
          have hz2 := hb2.size
          (try simp at hz2)
          have hs2_0 : w1.heap.size < w2.heap.size := by omega
          have hs2_1 : w1.heap.size + 1 < w2.heap.size := by omega
          have hw2 : w.heap.size ≤ w2.heap.size := by omega
          have hB2 := hid (((hB1.out.alloc (by omega) _).alloc (by simp; omega) _).trans (hb2.mono (by (try simp); omega)))
          clear hb2
          go_wp2_with fail
          refine (StampLess_spec _ _ _ _ _).mono ?_
          rw [hr.out]
          rintro e w3 ⟨rfl, hb3⟩
          obtain ⟨hc3, hf3⟩ := bcell hb3
          have hz3 := hb3.size
          have hs3_0 : w1.heap.size < w3.heap.size := by omega
          have hs3_1 : w1.heap.size + 1 < w3.heap.size := by omega
          have hw3 : w.heap.size ≤ w3.heap.size := by omega
          have hB3 := hid (hB2.out.trans (hb3.mono (by omega)))
          clear hb3
          go_wp2_with fail
          refine (StampValid_spec _ _ _).mono ?_
          rw [h1.out]
          rintro e w4 ⟨rfl, hb4⟩
          obtain ⟨hc4, hf4⟩ := bcell hb4
          have hz4 := hb4.size
          have hs4_0 : w1.heap.size < w4.heap.size := by omega
          have hs4_1 : w1.heap.size + 1 < w4.heap.size := by omega
          have hw4 : w.heap.size ≤ w4.heap.size := by omega
          have hB4 := hid (hB3.out.trans (hb4.mono (by omega)))
          clear hb4
          go_wp2_with fail
          refine (StampValid_spec _ _ _).mono ?_
          rw [h2.out]
          rintro e w5 ⟨rfl, hb5⟩
          obtain ⟨hc5, hf5⟩ := bcell hb5
          have hz5 := hb5.size
          have hs5_0 : w1.heap.size < w5.heap.size := by omega
          have hs5_1 : w1.heap.size + 1 < w5.heap.size := by omega
          have hw5 : w.heap.size ≤ w5.heap.size := by omega
          have hB5 := hid (hB4.out.trans (hb5.mono (by omega)))
          clear hb5
          go_wp2_with fail
          refine (StampLess_impl _ _ _ _ _).mono ?_
          rw [hq.out]
          rintro e w6 ⟨rfl, hb6⟩
          obtain ⟨hc6, hf6⟩ := bcell hb6
          have hz6 := hb6.size
          have hs6_0 : w1.heap.size < w6.heap.size := by omega
          have hs6_1 : w1.heap.size + 1 < w6.heap.size := by omega
          have hw6 : w.heap.size ≤ w6.heap.size := by omega
          have hB6 := hid (hB5.out.trans (hb6.mono (by omega)))
          clear hb6
          go_wp2
          go_ret
          exact ⟨rfl, hB6.out⟩

set_option maxHeartbeats 2000000 in
theorem lawHybridOrder {a : Option Addr} {len cap : Nat} {zs : List Int} (w : World) (h : RowIs .u8 w a len cap zs) :
    Calls Try.prog 11 #[.slice a len cap] w fun e w' => e = .returned (.bool true) ∧ Below w.heap.size w w' := by
  have hl : len ≤ 9223372036854775807 := by
    rcases h with ⟨rfl, rfl, rfl, rfl⟩ | ⟨x, rfl, hl, hm, _⟩
    · omega
    · unfold maxLen at hm; omega
  by_cases hbig : 1048576 < len
  · clear h
    go_enter Try.func11, Try.ntmps11
    go_wp2
    go_ret
    exact ⟨rfl, Below.refl _ _⟩
  · have h' := hid h
    clear h
    go_enter Try.func11, Try.ntmps11
    go_wp2_with fail
    refine (DrawHybridLess_any w h'.out).mono ?_
    rintro e w1 ⟨t, k, u, h, rfl, hb1⟩
    have hw1 := hb1.size
    have hB1 := hid hb1
    clear hb1
    cases h1 : hyB t k with
    | false =>
      have hr := hid (hyL_no1 (u := u) (h := h) h1)
      replace h1 := hid h1
      go_wp2_with fail
      refine (HybridLess_impl _ _ _ _ _).mono ?_
      rw [hr.out]
      rintro e w2 ⟨rfl, hb2⟩
      obtain ⟨hc2, hf2⟩ := bcell hb2
      have hz2 := hb2.size
      (try simp at hz2)
      have hs2_0 : w1.heap.size < w2.heap.size := by omega
      have hs2_1 : w1.heap.size + 1 < w2.heap.size := by omega
      have hw2 : w.heap.size ≤ w2.heap.size := by omega
      have hB2 := hid (((hB1.out.alloc (by omega) _).alloc (by simp; omega) _).trans (hb2.mono (by (try simp); omega)))
      clear hb2
      go_wp2_with fail
      refine (HybridLess_spec _ _ _ _ _).mono ?_
      rw [hr.out]
      rintro e w3 ⟨rfl, hb3⟩
      obtain ⟨hc3, hf3⟩ := bcell hb3
      have hz3 := hb3.size
      have hs3_0 : w1.heap.size < w3.heap.size := by omega
      have hs3_1 : w1.heap.size + 1 < w3.heap.size := by omega
      have hw3 : w.heap.size ≤ w3.heap.size := by omega
      have hB3 := hid (hB2.out.trans (hb3.mono (by omega)))
      clear hb3
      go_wp2_with fail
      refine (HybridValid_spec _ _ _).mono ?_
      rw [h1.out]
      rintro e w4 ⟨rfl, hb4⟩
      obtain ⟨hc4, hf4⟩ := bcell hb4
      have hz4 := hb4.size
      have hs4_0 : w1.heap.size < w4.heap.size := by omega
      have hs4_1 : w1.heap.size + 1 < w4.heap.size := by omega
      have hw4 : w.heap.size ≤ w4.heap.size := by omega
      have hB4 := hid (hB3.out.trans (hb4.mono (by omega)))
      clear hb4
      go_wp2
      go_ret
      exact ⟨rfl, hB4.out⟩
    | true =>
      cases h2 : hyB u h with
      | false =>
        have hr := hid (hyL_no2 (t := t) (g := k) h2)
        replace h1 := hid h1
        replace h2 := hid h2
        go_wp2_with fail
        refine (HybridLess_impl _ _ _ _ _).mono ?_
        rw [hr.out]
        rintro e w2 ⟨rfl, hb2⟩
        obtain ⟨hc2, hf2⟩ := bcell hb2
        have hz2 := hb2.size
        (try simp at hz2)
        have hs2_0 : w1.heap.size < w2.heap.size := by omega
        have hs2_1 : w1.heap.size + 1 < w2.heap.size := by omega
        have hw2 : w.heap.size ≤ w2.heap.size := by omega
        have hB2 := hid (((hB1.out.alloc (by omega) _).alloc (by simp; omega) _).trans (hb2.mono (by (try simp); omega)))
        clear hb2
        go_wp2_with fail
        refine (HybridLess_spec _ _ _ _ _).mono ?_
        rw [hr.out]
        rintro e w3 ⟨rfl, hb3⟩
        obtain ⟨hc3, hf3⟩ := bcell hb3
        have hz3 := hb3.size
        have hs3_0 : w1.heap.size < w3.heap.size := by omega
        have hs3_1 : w1.heap.size + 1 < w3.heap.size := by omega
        have hw3 : w.heap.size ≤ w3.heap.size := by omega
        have hB3 := hid (hB2.out.trans (hb3.mono (by omega)))
        clear hb3
        go_wp2_with fail
        refine (HybridValid_spec _ _ _).mono ?_
        rw [h1.out]
        rintro e w4 ⟨rfl, hb4⟩
        obtain ⟨hc4, hf4⟩ := bcell hb4
        have hz4 := hb4.size
        have hs4_0 : w1.heap.size < w4.heap.size := by omega
        have hs4_1 : w1.heap.size + 1 < w4.heap.size := by omega
        have hw4 : w.heap.size ≤ w4.heap.size := by omega
        have hB4 := hid (hB3.out.trans (hb4.mono (by omega)))
        clear hb4
        go_wp2_with fail
        refine (HybridValid_spec _ _ _).mono ?_
        rw [h2.out]
        rintro e w5 ⟨rfl, hb5⟩
        obtain ⟨hc5, hf5⟩ := bcell hb5
        have hz5 := hb5.size
        have hs5_0 : w1.heap.size < w5.heap.size := by omega
        have hs5_1 : w1.heap.size + 1 < w5.heap.size := by omega
        have hw5 : w.heap.size ≤ w5.heap.size := by omega
        have hB5 := hid (hB4.out.trans (hb5.mono (by omega)))
        clear hb5
        go_wp2
        go_ret
        exact ⟨rfl, hB5.out⟩
      | true =>
        rcases (show t < u ∨ (t = u ∧ k < h) ∨ u < t ∨ (t = u ∧ h < k) ∨ (t = u ∧ k = h) by omega) with e | ⟨rfl, e⟩ | e | ⟨rfl, e⟩ | ⟨rfl, rfl⟩
        · have hr := hid (show hyL t k u h = true by rw [hyL_yes h1 h2]; exact lexB_true.2 (by omega))
          have hq := hid (show hyL u h t k = false by rw [hyL_yes h2 h1]; exact lexB_false.2 (by omega))
          replace h1 := hid h1
          replace h2 := hid h2
          go_wp2_with fail
          refine (HybridLess_impl _ _ _ _ _).mono ?_
          rw [hr.out]
          rintro e w2 ⟨rfl, hb2⟩
          obtain ⟨hc2, hf2⟩ := bcell hb2
          have hz2 := hb2.size
          (try simp at hz2)
          have hs2_0 : w1.heap.size < w2.heap.size := by omega
          have hs2_1 : w1.heap.size + 1 < w2.heap.size := by omega
          have hw2 : w.heap.size ≤ w2.heap.size := by omega
          have hB2 := hid (((hB1.out.alloc (by omega) _).alloc (by simp; omega) _).trans (hb2.mono (by (try simp); omega)))
          clear hb2
          go_wp2_with fail
          refine (HybridLess_spec _ _ _ _ _).mono ?_
          rw [hr.out]
          rintro e w3 ⟨rfl, hb3⟩
          obtain ⟨hc3, hf3⟩ := bcell hb3
          have hz3 := hb3.size
          have hs3_0 : w1.heap.size < w3.heap.size := by omega
          have hs3_1 : w1.heap.size + 1 < w3.heap.size := by omega
          have hw3 : w.heap.size ≤ w3.heap.size := by omega
          have hB3 := hid (hB2.out.trans (hb3.mono (by omega)))
          clear hb3
          go_wp2_with fail
          refine (HybridValid_spec _ _ _).mono ?_
          rw [h1.out]
          rintro e w4 ⟨rfl, hb4⟩
          obtain ⟨hc4, hf4⟩ := bcell hb4
          have hz4 := hb4.size
          have hs4_0 : w1.heap.size < w4.heap.size := by omega
          have hs4_1 : w1.heap.size + 1 < w4.heap.size := by omega
          have hw4 : w.heap.size ≤ w4.heap.size := by omega
          have hB4 := hid (hB3.out.trans (hb4.mono (by omega)))
          clear hb4
          go_wp2_with fail
          refine (HybridValid_spec _ _ _).mono ?_
          rw [h2.out]
          rintro e w5 ⟨rfl, hb5⟩
          obtain ⟨hc5, hf5⟩ := bcell hb5
          have hz5 := hb5.size
          have hs5_0 : w1.heap.size < w5.heap.size := by omega
          have hs5_1 : w1.heap.size + 1 < w5.heap.size := by omega
          have hw5 : w.heap.size ≤ w5.heap.size := by omega
          have hB5 := hid (hB4.out.trans (hb5.mono (by omega)))
          clear hb5
          go_wp2_with fail
          refine (HybridLess_impl _ _ _ _ _).mono ?_
          rw [hq.out]
          rintro e w6 ⟨rfl, hb6⟩
          obtain ⟨hc6, hf6⟩ := bcell hb6
          have hz6 := hb6.size
          have hs6_0 : w1.heap.size < w6.heap.size := by omega
          have hs6_1 : w1.heap.size + 1 < w6.heap.size := by omega
          have hw6 : w.heap.size ≤ w6.heap.size := by omega
          have hB6 := hid (hB5.out.trans (hb6.mono (by omega)))
          clear hb6
          go_wp2
          go_ret
          exact ⟨rfl, hB6.out⟩
        · have hr := hid (show hyL t k t h = true by rw [hyL_yes h1 h2]; exact lexB_true.2 (by omega))
          have hq := hid (show hyL t h t k = false by rw [hyL_yes h2 h1]; exact lexB_false.2 (by omega))
          replace h1 := hid h1
          replace h2 := hid h2
          go_wp2_with fail
          refine (HybridLess_impl _ _ _ _ _).mono ?_
          rw [hr.out]
          rintro e w2 ⟨rfl, hb2⟩
          obtain ⟨hc2, hf2⟩ := bcell hb2
          have hz2 := hb2.size
          (try simp at hz2)
          have hs2_0 : w1.heap.size < w2.heap.size := by omega
          have hs2_1 : w1.heap.size + 1 < w2.heap.size := by omega
          have hw2 : w.heap.size ≤ w2.heap.size := by omega
          have hB2 := hid (((hB1.out.alloc (by omega) _).alloc (by simp; omega) _).trans (hb2.mono (by (try simp); omega)))
          clear hb2
          go_wp2_with fail
          refine (HybridLess_spec _ _ _ _ _).mono ?_
          rw [hr.out]
          rintro e w3 ⟨rfl, hb3⟩
          obtain ⟨hc3, hf3⟩ := bcell hb3
          have hz3 := hb3.size
          have hs3_0 : w1.heap.size < w3.heap.size := by omega
          have hs3_1 : w1.heap.size + 1 < w3.heap.size := by omega
          have hw3 : w.heap.size ≤ w3.heap.size := by omega
          have hB3 := hid (hB2.out.trans (hb3.mono (by omega)))
          clear hb3
          go_wp2_with fail
          refine (HybridValid_spec _ _ _).mono ?_
          rw [h1.out]
          rintro e w4 ⟨rfl, hb4⟩
          obtain ⟨hc4, hf4⟩ := bcell hb4
          have hz4 := hb4.size
          have hs4_0 : w1.heap.size < w4.heap.size := by omega
          have hs4_1 : w1.heap.size + 1 < w4.heap.size := by omega
          have hw4 : w.heap.size ≤ w4.heap.size := by omega
          have hB4 := hid (hB3.out.trans (hb4.mono (by omega)))
          clear hb4
          go_wp2_with fail
          refine (HybridValid_spec _ _ _).mono ?_
          rw [h2.out]
          rintro e w5 ⟨rfl, hb5⟩
          obtain ⟨hc5, hf5⟩ := bcell hb5
          have hz5 := hb5.size
          have hs5_0 : w1.heap.size < w5.heap.size := by omega
          have hs5_1 : w1.heap.size + 1 < w5.heap.size := by omega
          have hw5 : w.heap.size ≤ w5.heap.size := by omega
          have hB5 := hid (hB4.out.trans (hb5.mono (by omega)))
          clear hb5
          go_wp2_with fail
          refine (HybridLess_impl _ _ _ _ _).mono ?_
          rw [hq.out]
          rintro e w6 ⟨rfl, hb6⟩
          obtain ⟨hc6, hf6⟩ := bcell hb6
          have hz6 := hb6.size
          have hs6_0 : w1.heap.size < w6.heap.size := by omega
          have hs6_1 : w1.heap.size + 1 < w6.heap.size := by omega
          have hw6 : w.heap.size ≤ w6.heap.size := by omega
          have hB6 := hid (hB5.out.trans (hb6.mono (by omega)))
          clear hb6
          go_wp2
          go_ret
          exact ⟨rfl, hB6.out⟩
        · have hr := hid (show hyL t k u h = false by rw [hyL_yes h1 h2]; exact lexB_false.2 (by omega))
          have hq := hid (show hyL u h t k = true by rw [hyL_yes h2 h1]; exact lexB_true.2 (by omega))
          replace h1 := hid h1
          replace h2 := hid h2
          go_wp2_with fail
          refine (HybridLess_impl _ _ _ _ _).mono ?_
          rw [hr.out]
          rintro e w2 ⟨rfl, hb2⟩
          obtain ⟨hc2, hf2⟩ := bcell hb2
          have hz2 := hb2.size
          (try simp at hz2)
          have hs2_0 : w1.heap.size < w2.heap.size := by omega
          have hs2_1 : w1.heap.size + 1 < w2.heap.size := by omega
          have hw2 : w.heap.size ≤ w2.heap.size := by omega
          have hB2 := hid (((hB1.out.alloc (by omega) _).alloc (by simp; omega) _).trans (hb2.mono (by (try simp); omega)))
          clear hb2
          go_wp2_with fail
          refine (HybridLess_spec _ _ _ _ _).mono ?_
          rw [hr.out]
          rintro e w3 ⟨rfl, hb3⟩
          obtain ⟨hc3, hf3⟩ := bcell hb3
          have hz3 := hb3.size
          have hs3_0 : w1.heap.size < w3.heap.size := by omega
          have hs3_1 : w1.heap.size + 1 < w3.heap.size := by omega
          have hw3 : w.heap.size ≤ w3.heap.size := by omega
          have hB3 := hid (hB2.out.trans (hb3.mono (by omega)))
          clear hb3
          go_wp2_with fail
          refine (HybridValid_spec _ _ _).mono ?_
          rw [h1.out]
          rintro e w4 ⟨rfl, hb4⟩
          obtain ⟨hc4, hf4⟩ := bcell hb4
          have hz4 := hb4.size
          have hs4_0 : w1.heap.size < w4.heap.size := by omega
          have hs4_1 : w1.heap.size + 1 < w4.heap.size := by omega
          have hw4 : w.heap.size ≤ w4.heap.size := by omega
          have hB4 := hid (hB3.out.trans (hb4.mono (by omega)))
          clear hb4
          go_wp2_with fail
          refine (HybridValid_spec _ _ _).mono ?_
          rw [h2.out]
          rintro e w5 ⟨rfl, hb5⟩
          obtain ⟨hc5, hf5⟩ := bcell hb5
          have hz5 := hb5.size
          have hs5_0 : w1.heap.size < w5.heap.size := by omega
          have hs5_1 : w1.heap.size + 1 < w5.heap.size := by omega
          have hw5 : w.heap.size ≤ w5.heap.size := by omega
          have hB5 := hid (hB4.out.trans (hb5.mono (by omega)))
          clear hb5
          go_wp2_with fail
          refine (HybridLess_impl _ _ _ _ _).mono ?_
          rw [hq.out]
          rintro e w6 ⟨rfl, hb6⟩
          obtain ⟨hc6, hf6⟩ := bcell hb6
          have hz6 := hb6.size
          have hs6_0 : w1.heap.size < w6.heap.size := by omega
          have hs6_1 : w1.heap.size + 1 < w6.heap.size := by omega
          have hw6 : w.heap.size ≤ w6.heap.size := by omega
          have hB6 := hid (hB5.out.trans (hb6.mono (by omega)))
          clear hb6
          go_wp2
          go_ret
          exact ⟨rfl, hB6.out⟩
        · have hr := hid (show hyL t k t h = false by rw [hyL_yes h1 h2]; exact lexB_false.2 (by omega))
          have hq := hid (show hyL t h t k = true by rw [hyL_yes h2 h1]; exact lexB_true.2 (by omega))
          replace h1 := hid h1
          replace h2 := hid h2
          go_wp2_with fail
          refine (HybridLess_impl _ _ _ _ _).mono ?_
          rw [hr.out]
          rintro e w2 ⟨rfl, hb2⟩
          obtain ⟨hc2, hf2⟩ := bcell hb2
          have hz2 := hb2.size
          (try simp at hz2)
          have hs2_0 : w1.heap.size < w2.heap.size := by omega
          have hs2_1 : w1.heap.size + 1 < w2.heap.size := by omega
          have hw2 : w.heap.size ≤ w2.heap.size := by omega
          have hB2 := hid (((hB1.out.alloc (by omega) _).alloc (by simp; omega) _).trans (hb2.mono (by (try simp); omega)))
          clear hb2
          go_wp2_with fail
          refine (HybridLess_spec _ _ _ _ _).mono ?_
          rw [hr.out]
          rintro e w3 ⟨rfl, hb3⟩
          obtain ⟨hc3, hf3⟩ := bcell hb3
          have hz3 := hb3.size
          have hs3_0 : w1.heap.size < w3.heap.size := by omega
          have hs3_1 : w1.heap.size + 1 < w3.heap.size := by omega
          have hw3 : w.heap.size ≤ w3.heap.size := by omega
          have hB3 := hid (hB2.out.trans (hb3.mono (by omega)))
          clear hb3
          go_wp2_with fail
          refine (HybridValid_spec _ _ _).mono ?_
          rw [h1.out]
          rintro e w4 ⟨rfl, hb4⟩
          obtain ⟨hc4, hf4⟩ := bcell hb4
          have hz4 := hb4.size
          have hs4_0 : w1.heap.size < w4.heap.size := by omega
          have hs4_1 : w1.heap.size + 1 < w4.heap.size := by omega
          have hw4 : w.heap.size ≤ w4.heap.size := by omega
          have hB4 := hid (hB3.out.trans (hb4.mono (by omega)))
          clear hb4
          go_wp2_with fail
          refine (HybridValid_spec _ _ _).mono ?_
          rw [h2.out]
          rintro e w5 ⟨rfl, hb5⟩
          obtain ⟨hc5, hf5⟩ := bcell hb5
          have hz5 := hb5.size
          have hs5_0 : w1.heap.size < w5.heap.size := by omega
          have hs5_1 : w1.heap.size + 1 < w5.heap.size := by omega
          have hw5 : w.heap.size ≤ w5.heap.size := by omega
          have hB5 := hid (hB4.out.trans (hb5.mono (by omega)))
          clear hb5
          go_wp2_with fail
          refine (HybridLess_impl _ _ _ _ _).mono ?_
          rw [hq.out]
          rintro e w6 ⟨rfl, hb6⟩
          obtain ⟨hc6, hf6⟩ := bcell hb6
          have hz6 := hb6.size
          have hs6_0 : w1.heap.size < w6.heap.size := by omega
          have hs6_1 : w1.heap.size + 1 < w6.heap.size := by omega
          have hw6 : w.heap.size ≤ w6.heap.size := by omega
          have hB6 := hid (hB5.out.trans (hb6.mono (by omega)))
          clear hb6
          go_wp2
          go_ret
          exact ⟨rfl, hB6.out⟩
        · have hr := hid (show hyL t k t k = false by rw [hyL_yes h1 h2]; exact lexB_false.2 (by omega))
          have hq := hid (show hyL t k t k = false by rw [hyL_yes h2 h1]; exact lexB_false.2 (by omega))
          replace h1 := hid h1
          replace h2 := hid h2
          go_wp2_with fail
          refine (HybridLess_impl _ _ _ _ _).mono ?_
          rw [hr.out]
          rintro e w2 ⟨rfl, hb2⟩
          obtain ⟨hc2, hf2⟩ := bcell hb2
          have hz2 := hb2.size
          (try simp at hz2)
          have hs2_0 : w1.heap.size < w2.heap.size := by omega
          have hs2_1 : w1.heap.size + 1 < w2.heap.size := by omega
          have hw2 : w.heap.size ≤ w2.heap.size := by omega
          have hB2 := hid (((hB1.out.alloc (by omega) _).alloc (by simp; omega) _).trans (hb2.mono (by (try simp); omega)))
          clear hb2
          go_wp2_with fail
          refine (HybridLess_spec _ _ _ _ _).mono ?_
          rw [hr.out]
          rintro e w3 ⟨rfl, hb3⟩
          obtain ⟨hc3, hf3⟩ := bcell hb3
          have hz3 := hb3.size
          have hs3_0 : w1.heap.size < w3.heap.size := by omega
          have hs3_1 : w1.heap.size + 1 < w3.heap.size := by omega
          have hw3 : w.heap.size ≤ w3.heap.size := by omega
          have hB3 := hid (hB2.out.trans (hb3.mono (by omega)))
          clear hb3
          go_wp2_with fail
          refine (HybridValid_spec _ _ _).mono ?_
          rw [h1.out]
          rintro e w4 ⟨rfl, hb4⟩
          obtain ⟨hc4, hf4⟩ := bcell hb4
          have hz4 := hb4.size
          have hs4_0 : w1.heap.size < w4.heap.size := by omega
          have hs4_1 : w1.heap.size + 1 < w4.heap.size := by omega
          have hw4 : w.heap.size ≤ w4.heap.size := by omega
          have hB4 := hid (hB3.out.trans (hb4.mono (by omega)))
          clear hb4
          go_wp2_with fail
          refine (HybridValid_spec _ _ _).mono ?_
          rw [h2.out]
          rintro e w5 ⟨rfl, hb5⟩
          obtain ⟨hc5, hf5⟩ := bcell hb5
          have hz5 := hb5.size
          have hs5_0 : w1.heap.size < w5.heap.size := by omega
          have hs5_1 : w1.heap.size + 1 < w5.heap.size := by omega
          have hw5 : w.heap.size ≤ w5.heap.size := by omega
          have hB5 := hid (hB4.out.trans (hb5.mono (by omega)))
          clear hb5
          go_wp2_with fail
          refine (HybridLess_impl _ _ _ _ _).mono ?_
          rw [hq.out]
          rintro e w6 ⟨rfl, hb6⟩
          obtain ⟨hc6, hf6⟩ := bcell hb6
          have hz6 := hb6.size
          have hs6_0 : w1.heap.size < w6.heap.size := by omega
          have hs6_1 : w1.heap.size + 1 < w6.heap.size := by omega
          have hw6 : w.heap.size ≤ w6.heap.size := by omega
          have hB6 := hid (hB5.out.trans (hb6.mono (by omega)))
          clear hb6
          go_wp2
          go_ret
          exact ⟨rfl, hB6.out⟩
end Go.Proofs.Ytmnkamonkmoapaa
