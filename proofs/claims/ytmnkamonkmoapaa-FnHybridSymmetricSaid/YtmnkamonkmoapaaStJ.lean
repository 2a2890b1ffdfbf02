/-
  The walks of the laws FnHybridMerge, FnHybridSymmetric. No condition.
-/
import Derived.Test.YtmnkamonkmoapaaStI
namespace Go.Proofs.Ytmnkamonkmoapaa
open Go.RowKit

set_option maxHeartbeats 2000000 in
theorem lawHybridMerge {a : Option Addr} {len cap : Nat} {zs : List Int} (w : World) (h : RowIs .u8 w a len cap zs) :
    Calls Try.prog 8 #[.slice a len cap] w fun e w' => e = .returned (.bool true) ∧ Below w.heap.size w w' := by
  have hl : len ≤ 9223372036854775807 := by
    rcases h with ⟨rfl, rfl, rfl, rfl⟩ | ⟨x, rfl, hl, hm, _⟩
    · omega
    · unfold maxLen at hm; omega
  by_cases hbig : 1048576 < len
  · clear h
    go_enter Try.func8, Try.ntmps8
    go_wp2
    go_ret
    exact ⟨rfl, Below.refl _ _⟩
  · have h' := hid h
    clear h
    go_enter Try.func8, Try.ntmps8
    go_wp2_with fail
    refine (DrawHybridMerge_any w h'.out).mono ?_
    rintro e w1 ⟨t, k, p, u, h, rfl, hb1⟩
    have hw1 := hb1.size
    have hB1 := hid hb1
    clear hb1
    rcases merge_cases t k p u h with R | ⟨h1, h2, hp, R⟩
    · have R := hid R
      go_wp2_with fail
      refine (HybridMerge_impl _ _ _ _ _ _).mono ?_
      unfold MergePost
      rw [R.out.1, R.out.2.1, R.out.2.2]
      rintro e w2 ⟨rfl, hb2⟩
      obtain ⟨hc2, hf2⟩ := bcell hb2
      have hz2 := hb2.size
      (try simp at hz2)
      have hs2_0 : w1.heap.size < w2.heap.size := by omega
      have hs2_1 : w1.heap.size + 1 < w2.heap.size := by omega
      have hw2 : w.heap.size ≤ w2.heap.size := by omega
      have hB2 := hid (((hB1.out.alloc (by omega) _).alloc (by simp; omega) _).trans (hb2.mono (by (try simp); omega)))
      clear hb2
      go_wp2_with fail
      refine (HybridMerge_spec _ _ _ _ _ _).mono ?_
      unfold MergePost
      rw [R.out.1, R.out.2.1, R.out.2.2]
      rintro e w3 ⟨rfl, hb3⟩
      obtain ⟨hc3, hf3⟩ := bcell hb3
      have hz3 := hb3.size
      (try simp at hz3)
      have hs3_0 : w1.heap.size < w3.heap.size := by omega
      have hs3_1 : w1.heap.size + 1 < w3.heap.size := by omega
      have hs3_2 : w2.heap.size < w3.heap.size := by omega
      have hw3 : w.heap.size ≤ w3.heap.size := by omega
      have hB3 := hid ((hB2.out.alloc (by omega) _).trans (hb3.mono (by (try simp); omega)))
      clear hb3
      go_wp2
      go_ret
      exact ⟨rfl, (hB3.out.alloc (by omega) _)⟩
    · have b1 := hyB_true.1 h1
      have b9 := hyB_true.1 h2
      have bp := inB_true.1 hp
      rcases R with ⟨e, e2, R⟩ | ⟨e, e2, e3, R⟩ | ⟨e, e2, e3, R⟩ | ⟨e, e2, e3, e4, R⟩ | ⟨e, e2, e3, e4, R⟩
      · have R := hid R
        have hv : hyB p 0 = true := hyB_true.2 (by omega)
        have hq := hid (show hyL t k p 0 = true by rw [hyL_yes h1 hv]; exact lexB_true.2 (by omega))
        have hq2 := hid (show hyL u h p 0 = true by rw [hyL_yes h2 hv]; exact lexB_true.2 (by omega))
        clear hv
        obtain ⟨b2, b3, b4, b5⟩ := b1
        obtain ⟨c2, c3, c4, c5⟩ := b9
        obtain ⟨b6, b7⟩ := bp
        clear h1 h2 hp
        go_wp2_with fail
        refine (HybridMerge_impl _ _ _ _ _ _).mono ?_
        unfold MergePost
        rw [R.out.1, R.out.2.1, R.out.2.2]
        rintro e w2 ⟨rfl, hb2⟩
        obtain ⟨hc2, hf2⟩ := bcell hb2
        have hz2 := hb2.size
        (try simp at hz2)
        have hs2_0 : w1.heap.size < w2.heap.size := by omega
        have hs2_1 : w1.heap.size + 1 < w2.heap.size := by omega
        have hw2 : w.heap.size ≤ w2.heap.size := by omega
        have hB2 := hid (((hB1.out.alloc (by omega) _).alloc (by simp; omega) _).trans (hb2.mono (by (try simp); omega)))
        clear hb2
        go_wp2_with fail
        refine (HybridMerge_spec _ _ _ _ _ _).mono ?_
        unfold MergePost
        rw [R.out.1, R.out.2.1, R.out.2.2]
        rintro e w3 ⟨rfl, hb3⟩
        obtain ⟨hc3, hf3⟩ := bcell hb3
        have hz3 := hb3.size
        (try simp at hz3)
        have hs3_0 : w1.heap.size < w3.heap.size := by omega
        have hs3_1 : w1.heap.size + 1 < w3.heap.size := by omega
        have hs3_2 : w2.heap.size < w3.heap.size := by omega
        have hw3 : w.heap.size ≤ w3.heap.size := by omega
        have hB3 := hid ((hB2.out.alloc (by omega) _).trans (hb3.mono (by (try simp); omega)))
        clear hb3
        go_wp2_with fail
        refine (HybridLess_impl _ _ _ _ _).mono ?_
        rw [hq.out]
        rintro e w4 ⟨rfl, hb4⟩
        obtain ⟨hc4, hf4⟩ := bcell hb4
        have hz4 := hb4.size
        (try simp at hz4)
        have hs4_0 : w1.heap.size < w4.heap.size := by omega
        have hs4_1 : w1.heap.size + 1 < w4.heap.size := by omega
        have hs4_2 : w2.heap.size < w4.heap.size := by omega
        have hs4_3 : w3.heap.size < w4.heap.size := by omega
        have hw4 : w.heap.size ≤ w4.heap.size := by omega
        have hB4 := hid ((hB3.out.alloc (by omega) _).trans (hb4.mono (by (try simp); omega)))
        clear hb4
        go_wp2_with fail
        refine (HybridLess_impl _ _ _ _ _).mono ?_
        rw [hq2.out]
        rintro e w5 ⟨rfl, hb5⟩
        obtain ⟨hc5, hf5⟩ := bcell hb5
        have hz5 := hb5.size
        have hs5_0 : w1.heap.size < w5.heap.size := by omega
        have hs5_1 : w1.heap.size + 1 < w5.heap.size := by omega
        have hs5_2 : w2.heap.size < w5.heap.size := by omega
        have hs5_3 : w3.heap.size < w5.heap.size := by omega
        have hw5 : w.heap.size ≤ w5.heap.size := by omega
        have hB5 := hid (hB4.out.trans (hb5.mono (by omega)))
        clear hb5
        go_wp2
        go_ret
        exact ⟨rfl, hB5.out⟩
      · have R := hid R
        have hv : hyB t (k + 1) = true := hyB_true.2 (by omega)
        have hq := hid (show hyL t k t (k + 1) = true by rw [hyL_yes h1 hv]; exact lexB_true.2 (by omega))
        have hq2 := hid (show hyL u h t (k + 1) = true by rw [hyL_yes h2 hv]; exact lexB_true.2 (by omega))
        clear hv
        obtain ⟨b2, b3, b4, b5⟩ := b1
        obtain ⟨c2, c3, c4, c5⟩ := b9
        obtain ⟨b6, b7⟩ := bp
        clear h1 h2 hp
        go_wp2_with fail
        refine (HybridMerge_impl _ _ _ _ _ _).mono ?_
        unfold MergePost
        rw [R.out.1, R.out.2.1, R.out.2.2]
        rintro e w2 ⟨rfl, hb2⟩
        obtain ⟨hc2, hf2⟩ := bcell hb2
        have hz2 := hb2.size
        (try simp at hz2)
        have hs2_0 : w1.heap.size < w2.heap.size := by omega
        have hs2_1 : w1.heap.size + 1 < w2.heap.size := by omega
        have hw2 : w.heap.size ≤ w2.heap.size := by omega
        have hB2 := hid (((hB1.out.alloc (by omega) _).alloc (by simp; omega) _).trans (hb2.mono (by (try simp); omega)))
        clear hb2
        go_wp2_with fail
        refine (HybridMerge_spec _ _ _ _ _ _).mono ?_
        unfold MergePost
        rw [R.out.1, R.out.2.1, R.out.2.2]
        rintro e w3 ⟨rfl, hb3⟩
        obtain ⟨hc3, hf3⟩ := bcell hb3
        have hz3 := hb3.size
        (try simp at hz3)
        have hs3_0 : w1.heap.size < w3.heap.size := by omega
        have hs3_1 : w1.heap.size + 1 < w3.heap.size := by omega
        have hs3_2 : w2.heap.size < w3.heap.size := by omega
        have hw3 : w.heap.size ≤ w3.heap.size := by omega
        have hB3 := hid ((hB2.out.alloc (by omega) _).trans (hb3.mono (by (try simp); omega)))
        clear hb3
        go_wp2_with fail
        refine (HybridLess_impl _ _ _ _ _).mono ?_
        rw [hq.out]
        rintro e w4 ⟨rfl, hb4⟩
        obtain ⟨hc4, hf4⟩ := bcell hb4
        have hz4 := hb4.size
        (try simp at hz4)
        have hs4_0 : w1.heap.size < w4.heap.size := by omega
        have hs4_1 : w1.heap.size + 1 < w4.heap.size := by omega
        have hs4_2 : w2.heap.size < w4.heap.size := by omega
        have hs4_3 : w3.heap.size < w4.heap.size := by omega
        have hw4 : w.heap.size ≤ w4.heap.size := by omega
        have hB4 := hid ((hB3.out.alloc (by omega) _).trans (hb4.mono (by (try simp); omega)))
        clear hb4
        go_wp2_with fail
        refine (HybridLess_impl _ _ _ _ _).mono ?_
        rw [hq2.out]
        rintro e w5 ⟨rfl, hb5⟩
        obtain ⟨hc5, hf5⟩ := bcell hb5
        have hz5 := hb5.size
        have hs5_0 : w1.heap.size < w5.heap.size := by omega
        have hs5_1 : w1.heap.size + 1 < w5.heap.size := by omega
        have hs5_2 : w2.heap.size < w5.heap.size := by omega
        have hs5_3 : w3.heap.size < w5.heap.size := by omega
        have hw5 : w.heap.size ≤ w5.heap.size := by omega
        have hB5 := hid (hB4.out.trans (hb5.mono (by omega)))
        clear hb5
        go_wp2
        go_ret
        exact ⟨rfl, hB5.out⟩
      · have R := hid R
        have hv : hyB u (h + 1) = true := hyB_true.2 (by omega)
        have hq := hid (show hyL t k u (h + 1) = true by rw [hyL_yes h1 hv]; exact lexB_true.2 (by omega))
        have hq2 := hid (show hyL u h u (h + 1) = true by rw [hyL_yes h2 hv]; exact lexB_true.2 (by omega))
        clear hv
        obtain ⟨b2, b3, b4, b5⟩ := b1
        obtain ⟨c2, c3, c4, c5⟩ := b9
        obtain ⟨b6, b7⟩ := bp
        clear h1 h2 hp
        go_wp2_with fail
        refine (HybridMerge_impl _ _ _ _ _ _).mono ?_
        unfold MergePost
        rw [R.out.1, R.out.2.1, R.out.2.2]
        rintro e w2 ⟨rfl, hb2⟩
        obtain ⟨hc2, hf2⟩ := bcell hb2
        have hz2 := hb2.size
        (try simp at hz2)
        have hs2_0 : w1.heap.size < w2.heap.size := by omega
        have hs2_1 : w1.heap.size + 1 < w2.heap.size := by omega
        have hw2 : w.heap.size ≤ w2.heap.size := by omega
        have hB2 := hid (((hB1.out.alloc (by omega) _).alloc (by simp; omega) _).trans (hb2.mono (by (try simp); omega)))
        clear hb2
        go_wp2_with fail
        refine (HybridMerge_spec _ _ _ _ _ _).mono ?_
        unfold MergePost
        rw [R.out.1, R.out.2.1, R.out.2.2]
        rintro e w3 ⟨rfl, hb3⟩
        obtain ⟨hc3, hf3⟩ := bcell hb3
        have hz3 := hb3.size
        (try simp at hz3)
        have hs3_0 : w1.heap.size < w3.heap.size := by omega
        have hs3_1 : w1.heap.size + 1 < w3.heap.size := by omega
        have hs3_2 : w2.heap.size < w3.heap.size := by omega
        have hw3 : w.heap.size ≤ w3.heap.size := by omega
        have hB3 := hid ((hB2.out.alloc (by omega) _).trans (hb3.mono (by (try simp); omega)))
        clear hb3
        go_wp2_with fail
        refine (HybridLess_impl _ _ _ _ _).mono ?_
        rw [hq.out]
        rintro e w4 ⟨rfl, hb4⟩
        obtain ⟨hc4, hf4⟩ := bcell hb4
        have hz4 := hb4.size
        (try simp at hz4)
        have hs4_0 : w1.heap.size < w4.heap.size := by omega
        have hs4_1 : w1.heap.size + 1 < w4.heap.size := by omega
        have hs4_2 : w2.heap.size < w4.heap.size := by omega
        have hs4_3 : w3.heap.size < w4.heap.size := by omega
        have hw4 : w.heap.size ≤ w4.heap.size := by omega
        have hB4 := hid ((hB3.out.alloc (by omega) _).trans (hb4.mono (by (try simp); omega)))
        clear hb4
        go_wp2_with fail
        refine (HybridLess_impl _ _ _ _ _).mono ?_
        rw [hq2.out]
        rintro e w5 ⟨rfl, hb5⟩
        obtain ⟨hc5, hf5⟩ := bcell hb5
        have hz5 := hb5.size
        have hs5_0 : w1.heap.size < w5.heap.size := by omega
        have hs5_1 : w1.heap.size + 1 < w5.heap.size := by omega
        have hs5_2 : w2.heap.size < w5.heap.size := by omega
        have hs5_3 : w3.heap.size < w5.heap.size := by omega
        have hw5 : w.heap.size ≤ w5.heap.size := by omega
        have hB5 := hid (hB4.out.trans (hb5.mono (by omega)))
        clear hb5
        go_wp2
        go_ret
        exact ⟨rfl, hB5.out⟩
      · subst e
        have R := hid R
        have hv : hyB t (k + 1) = true := hyB_true.2 (by omega)
        have hq := hid (show hyL t k t (k + 1) = true by rw [hyL_yes h1 hv]; exact lexB_true.2 (by omega))
        have hq2 := hid (show hyL t h t (k + 1) = true by rw [hyL_yes h2 hv]; exact lexB_true.2 (by omega))
        clear hv
        obtain ⟨b2, b3, b4, b5⟩ := b1
        obtain ⟨c2, c3, c4, c5⟩ := b9
        obtain ⟨b6, b7⟩ := bp
        clear h1 h2 hp
        go_wp2_with fail
        refine (HybridMerge_impl _ _ _ _ _ _).mono ?_
        unfold MergePost
        rw [R.out.1, R.out.2.1, R.out.2.2]
        rintro e w2 ⟨rfl, hb2⟩
        obtain ⟨hc2, hf2⟩ := bcell hb2
        have hz2 := hb2.size
        (try simp at hz2)
        have hs2_0 : w1.heap.size < w2.heap.size := by omega
        have hs2_1 : w1.heap.size + 1 < w2.heap.size := by omega
        have hw2 : w.heap.size ≤ w2.heap.size := by omega
        have hB2 := hid (((hB1.out.alloc (by omega) _).alloc (by simp; omega) _).trans (hb2.mono (by (try simp); omega)))
        clear hb2
        go_wp2_with fail
        refine (HybridMerge_spec _ _ _ _ _ _).mono ?_
        unfold MergePost
        rw [R.out.1, R.out.2.1, R.out.2.2]
        rintro e w3 ⟨rfl, hb3⟩
        obtain ⟨hc3, hf3⟩ := bcell hb3
        have hz3 := hb3.size
        (try simp at hz3)
        have hs3_0 : w1.heap.size < w3.heap.size := by omega
        have hs3_1 : w1.heap.size + 1 < w3.heap.size := by omega
        have hs3_2 : w2.heap.size < w3.heap.size := by omega
        have hw3 : w.heap.size ≤ w3.heap.size := by omega
        have hB3 := hid ((hB2.out.alloc (by omega) _).trans (hb3.mono (by (try simp); omega)))
        clear hb3
        go_wp2_with fail
        refine (HybridLess_impl _ _ _ _ _).mono ?_
        rw [hq.out]
        rintro e w4 ⟨rfl, hb4⟩
        obtain ⟨hc4, hf4⟩ := bcell hb4
        have hz4 := hb4.size
        (try simp at hz4)
        have hs4_0 : w1.heap.size < w4.heap.size := by omega
        have hs4_1 : w1.heap.size + 1 < w4.heap.size := by omega
        have hs4_2 : w2.heap.size < w4.heap.size := by omega
        have hs4_3 : w3.heap.size < w4.heap.size := by omega
        have hw4 : w.heap.size ≤ w4.heap.size := by omega
        have hB4 := hid ((hB3.out.alloc (by omega) _).trans (hb4.mono (by (try simp); omega)))
        clear hb4
        go_wp2_with fail
        refine (HybridLess_impl _ _ _ _ _).mono ?_
        rw [hq2.out]
        rintro e w5 ⟨rfl, hb5⟩
        obtain ⟨hc5, hf5⟩ := bcell hb5
        have hz5 := hb5.size
        have hs5_0 : w1.heap.size < w5.heap.size := by omega
        have hs5_1 : w1.heap.size + 1 < w5.heap.size := by omega
        have hs5_2 : w2.heap.size < w5.heap.size := by omega
        have hs5_3 : w3.heap.size < w5.heap.size := by omega
        have hw5 : w.heap.size ≤ w5.heap.size := by omega
        have hB5 := hid (hB4.out.trans (hb5.mono (by omega)))
        clear hb5
        go_wp2
        go_ret
        exact ⟨rfl, hB5.out⟩
      · subst e
        have R := hid R
        have hv : hyB t (h + 1) = true := hyB_true.2 (by omega)
        have hq := hid (show hyL t k t (h + 1) = true by rw [hyL_yes h1 hv]; exact lexB_true.2 (by omega))
        have hq2 := hid (show hyL t h t (h + 1) = true by rw [hyL_yes h2 hv]; exact lexB_true.2 (by omega))
        clear hv
        obtain ⟨b2, b3, b4, b5⟩ := b1
        obtain ⟨c2, c3, c4, c5⟩ := b9
        obtain ⟨b6, b7⟩ := bp
        clear h1 h2 hp
        go_wp2_with fail
        refine (HybridMerge_impl _ _ _ _ _ _).mono ?_
        unfold MergePost
        rw [R.out.1, R.out.2.1, R.out.2.2]
        rintro e w2 ⟨rfl, hb2⟩
        obtain ⟨hc2, hf2⟩ := bcell hb2
        have hz2 := hb2.size
        (try simp at hz2)
        have hs2_0 : w1.heap.size < w2.heap.size := by omega
        have hs2_1 : w1.heap.size + 1 < w2.heap.size := by omega
        have hw2 : w.heap.size ≤ w2.heap.size := by omega
        have hB2 := hid (((hB1.out.alloc (by omega) _).alloc (by simp; omega) _).trans (hb2.mono (by (try simp); omega)))
        clear hb2
        go_wp2_with fail
        refine (HybridMerge_spec _ _ _ _ _ _).mono ?_
        unfold MergePost
        rw [R.out.1, R.out.2.1, R.out.2.2]
        rintro e w3 ⟨rfl, hb3⟩
        obtain ⟨hc3, hf3⟩ := bcell hb3
        have hz3 := hb3.size
        (try simp at hz3)
        have hs3_0 : w1.heap.size < w3.heap.size := by omega
        have hs3_1 : w1.heap.size + 1 < w3.heap.size := by omega
        have hs3_2 : w2.heap.size < w3.heap.size := by omega
        have hw3 : w.heap.size ≤ w3.heap.size := by omega
        have hB3 := hid ((hB2.out.alloc (by omega) _).trans (hb3.mono (by (try simp); omega)))
        clear hb3
        go_wp2_with fail
        refine (HybridLess_impl _ _ _ _ _).mono ?_
        rw [hq.out]
        rintro e w4 ⟨rfl, hb4⟩
        obtain ⟨hc4, hf4⟩ := bcell hb4
        have hz4 := hb4.size
        (try simp at hz4)
        have hs4_0 : w1.heap.size < w4.heap.size := by omega
        have hs4_1 : w1.heap.size + 1 < w4.heap.size := by omega
        have hs4_2 : w2.heap.size < w4.heap.size := by omega
        have hs4_3 : w3.heap.size < w4.heap.size := by omega
        have hw4 : w.heap.size ≤ w4.heap.size := by omega
        have hB4 := hid ((hB3.out.alloc (by omega) _).trans (hb4.mono (by (try simp); omega)))
        clear hb4
        go_wp2_with fail
        refine (HybridLess_impl _ _ _ _ _).mono ?_
        rw [hq2.out]
        rintro e w5 ⟨rfl, hb5⟩
        obtain ⟨hc5, hf5⟩ := bcell hb5
        have hz5 := hb5.size
        have hs5_0 : w1.heap.size < w5.heap.size := by omega
        have hs5_1 : w1.heap.size + 1 < w5.heap.size := by omega
        have hs5_2 : w2.heap.size < w5.heap.size := by omega
        have hs5_3 : w3.heap.size < w5.heap.size := by omega
        have hw5 : w.heap.size ≤ w5.heap.size := by omega
        have hB5 := hid (hB4.out.trans (hb5.mono (by omega)))
        clear hb5
        go_wp2
        go_ret
        exact ⟨rfl, hB5.out⟩

set_option maxHeartbeats 2000000 in
theorem lawHybridSymmetric {a : Option Addr} {len cap : Nat} {zs : List Int} (w : World) (h : RowIs .u8 w a len cap zs) :
    Calls Try.prog 10 #[.slice a len cap] w fun e w' => e = .returned (.bool true) ∧ Below w.heap.size w w' := by
  have hl : len ≤ 9223372036854775807 := by
    rcases h with ⟨rfl, rfl, rfl, rfl⟩ | ⟨x, rfl, hl, hm, _⟩
    · omega
    · unfold maxLen at hm; omega
  by_cases hbig : 1048576 < len
  · clear h
    go_enter Try.func10, Try.ntmps10
    go_wp2
    go_ret
    exact ⟨rfl, Below.refl _ _⟩
  · have h' := hid h
    clear h
    go_enter Try.func10, Try.ntmps10
    go_wp2_with fail
    refine (DrawHybridMerge_any w h'.out).mono ?_
    rintro e w1 ⟨t, k, p, u, h, rfl, hb1⟩
    have hw1 := hb1.size
    have hB1 := hid hb1
    clear hb1
    rcases merge_cases t k p u h with R | ⟨h1, h2, hp, R⟩
    · have R := hid R
      go_wp2_with fail
      refine (HybridMerge_impl _ _ _ _ _ _).mono ?_
      unfold MergePost
      rw [R.out.1, R.out.2.1, R.out.2.2]
      rintro e w2 ⟨rfl, hb2⟩
      obtain ⟨hc2, hf2⟩ := bcell hb2
      have hz2 := hb2.size
      (try simp at hz2)
      have hs2_0 : w1.heap.size < w2.heap.size := by omega
      have hs2_1 : w1.heap.size + 1 < w2.heap.size := by omega
      have hw2 : w.heap.size ≤ w2.heap.size := by omega
      have hB2 := hid (((hB1.out.alloc (by omega) _).alloc (by simp; omega) _).trans (hb2.mono (by (try simp); omega)))
      clear hb2
      go_wp2_with fail
      refine (HybridMerge_spec _ _ _ _ _ _).mono ?_
      unfold MergePost
      rw [R.out.1, R.out.2.1, R.out.2.2]
      rintro e w3 ⟨rfl, hb3⟩
      obtain ⟨hc3, hf3⟩ := bcell hb3
      have hz3 := hb3.size
      (try simp at hz3)
      have hs3_0 : w1.heap.size < w3.heap.size := by omega
      have hs3_1 : w1.heap.size + 1 < w3.heap.size := by omega
      have hs3_2 : w2.heap.size < w3.heap.size := by omega
      have hw3 : w.heap.size ≤ w3.heap.size := by omega
      have hB3 := hid ((hB2.out.alloc (by omega) _).trans (hb3.mono (by (try simp); omega)))
      clear hb3
      go_wp2
      go_ret
      exact ⟨rfl, (hB3.out.alloc (by omega) _)⟩
    · have b1 := hyB_true.1 h1
      have b9 := hyB_true.1 h2
      have bp := inB_true.1 hp
      rcases R with ⟨e, e2, R⟩ | ⟨e, e2, e3, R⟩ | ⟨e, e2, e3, R⟩ | ⟨e, e2, e3, e4, R⟩ | ⟨e, e2, e3, e4, R⟩
      · have S := hid (merge_hi h2 h1 hp e2 e)
        have R := hid R
        obtain ⟨b2, b3, b4, b5⟩ := b1
        obtain ⟨c2, c3, c4, c5⟩ := b9
        obtain ⟨b6, b7⟩ := bp
        clear h1 h2 hp
        go_wp2_with fail
        refine (HybridMerge_impl _ _ _ _ _ _).mono ?_
        unfold MergePost
        rw [R.out.1, R.out.2.1, R.out.2.2]
        rintro e w2 ⟨rfl, hb2⟩
        obtain ⟨hc2, hf2⟩ := bcell hb2
        have hz2 := hb2.size
        (try simp at hz2)
        have hs2_0 : w1.heap.size < w2.heap.size := by omega
        have hs2_1 : w1.heap.size + 1 < w2.heap.size := by omega
        have hw2 : w.heap.size ≤ w2.heap.size := by omega
        have hB2 := hid (((hB1.out.alloc (by omega) _).alloc (by simp; omega) _).trans (hb2.mono (by (try simp); omega)))
        clear hb2
        go_wp2_with fail
        refine (HybridMerge_spec _ _ _ _ _ _).mono ?_
        unfold MergePost
        rw [R.out.1, R.out.2.1, R.out.2.2]
        rintro e w3 ⟨rfl, hb3⟩
        obtain ⟨hc3, hf3⟩ := bcell hb3
        have hz3 := hb3.size
        (try simp at hz3)
        have hs3_0 : w1.heap.size < w3.heap.size := by omega
        have hs3_1 : w1.heap.size + 1 < w3.heap.size := by omega
        have hs3_2 : w2.heap.size < w3.heap.size := by omega
        have hw3 : w.heap.size ≤ w3.heap.size := by omega
        have hB3 := hid ((hB2.out.alloc (by omega) _).trans (hb3.mono (by (try simp); omega)))
        clear hb3
        go_wp2_with fail
        refine (HybridMerge_impl _ _ _ _ _ _).mono ?_
        unfold MergePost
        rw [S.out.1, S.out.2.1, S.out.2.2]
        rintro e w4 ⟨rfl, hb4⟩
        obtain ⟨hc4, hf4⟩ := bcell hb4
        have hz4 := hb4.size
        (try simp at hz4)
        have hs4_0 : w1.heap.size < w4.heap.size := by omega
        have hs4_1 : w1.heap.size + 1 < w4.heap.size := by omega
        have hs4_2 : w2.heap.size < w4.heap.size := by omega
        have hs4_3 : w3.heap.size < w4.heap.size := by omega
        have hw4 : w.heap.size ≤ w4.heap.size := by omega
        have hB4 := hid ((hB3.out.alloc (by omega) _).trans (hb4.mono (by (try simp); omega)))
        clear hb4
        go_wp2
        go_ret
        exact ⟨rfl, (hB4.out.alloc (by omega) _)⟩
      · have S := hid ((merge_lo (W := t) (C := k) h2 h1 hp (by omega) (by omega) (by omega) (.inr ⟨rfl, rfl, fun h => by omega⟩)).1 (by omega))
        have R := hid R
        obtain ⟨b2, b3, b4, b5⟩ := b1
        obtain ⟨c2, c3, c4, c5⟩ := b9
        obtain ⟨b6, b7⟩ := bp
        clear h1 h2 hp
        go_wp2_with fail
        refine (HybridMerge_impl _ _ _ _ _ _).mono ?_
        unfold MergePost
        rw [R.out.1, R.out.2.1, R.out.2.2]
        rintro e w2 ⟨rfl, hb2⟩
        obtain ⟨hc2, hf2⟩ := bcell hb2
        have hz2 := hb2.size
        (try simp at hz2)
        have hs2_0 : w1.heap.size < w2.heap.size := by omega
        have hs2_1 : w1.heap.size + 1 < w2.heap.size := by omega
        have hw2 : w.heap.size ≤ w2.heap.size := by omega
        have hB2 := hid (((hB1.out.alloc (by omega) _).alloc (by simp; omega) _).trans (hb2.mono (by (try simp); omega)))
        clear hb2
        go_wp2_with fail
        refine (HybridMerge_spec _ _ _ _ _ _).mono ?_
        unfold MergePost
        rw [R.out.1, R.out.2.1, R.out.2.2]
        rintro e w3 ⟨rfl, hb3⟩
        obtain ⟨hc3, hf3⟩ := bcell hb3
        have hz3 := hb3.size
        (try simp at hz3)
        have hs3_0 : w1.heap.size < w3.heap.size := by omega
        have hs3_1 : w1.heap.size + 1 < w3.heap.size := by omega
        have hs3_2 : w2.heap.size < w3.heap.size := by omega
        have hw3 : w.heap.size ≤ w3.heap.size := by omega
        have hB3 := hid ((hB2.out.alloc (by omega) _).trans (hb3.mono (by (try simp); omega)))
        clear hb3
        go_wp2_with fail
        refine (HybridMerge_impl _ _ _ _ _ _).mono ?_
        unfold MergePost
        rw [S.out.1, S.out.2.1, S.out.2.2]
        rintro e w4 ⟨rfl, hb4⟩
        obtain ⟨hc4, hf4⟩ := bcell hb4
        have hz4 := hb4.size
        (try simp at hz4)
        have hs4_0 : w1.heap.size < w4.heap.size := by omega
        have hs4_1 : w1.heap.size + 1 < w4.heap.size := by omega
        have hs4_2 : w2.heap.size < w4.heap.size := by omega
        have hs4_3 : w3.heap.size < w4.heap.size := by omega
        have hw4 : w.heap.size ≤ w4.heap.size := by omega
        have hB4 := hid ((hB3.out.alloc (by omega) _).trans (hb4.mono (by (try simp); omega)))
        clear hb4
        go_wp2
        go_ret
        exact ⟨rfl, (hB4.out.alloc (by omega) _)⟩
      · have S := hid ((merge_lo (W := u) (C := h) h2 h1 hp (by omega) (by omega) (by omega) (.inl ⟨rfl, rfl, fun h => by omega⟩)).1 (by omega))
        have R := hid R
        obtain ⟨b2, b3, b4, b5⟩ := b1
        obtain ⟨c2, c3, c4, c5⟩ := b9
        obtain ⟨b6, b7⟩ := bp
        clear h1 h2 hp
        go_wp2_with fail
        refine (HybridMerge_impl _ _ _ _ _ _).mono ?_
        unfold MergePost
        rw [R.out.1, R.out.2.1, R.out.2.2]
        rintro e w2 ⟨rfl, hb2⟩
        obtain ⟨hc2, hf2⟩ := bcell hb2
        have hz2 := hb2.size
        (try simp at hz2)
        have hs2_0 : w1.heap.size < w2.heap.size := by omega
        have hs2_1 : w1.heap.size + 1 < w2.heap.size := by omega
        have hw2 : w.heap.size ≤ w2.heap.size := by omega
        have hB2 := hid (((hB1.out.alloc (by omega) _).alloc (by simp; omega) _).trans (hb2.mono (by (try simp); omega)))
        clear hb2
        go_wp2_with fail
        refine (HybridMerge_spec _ _ _ _ _ _).mono ?_
        unfold MergePost
        rw [R.out.1, R.out.2.1, R.out.2.2]
        rintro e w3 ⟨rfl, hb3⟩
        obtain ⟨hc3, hf3⟩ := bcell hb3
        have hz3 := hb3.size
        (try simp at hz3)
        have hs3_0 : w1.heap.size < w3.heap.size := by omega
        have hs3_1 : w1.heap.size + 1 < w3.heap.size := by omega
        have hs3_2 : w2.heap.size < w3.heap.size := by omega
        have hw3 : w.heap.size ≤ w3.heap.size := by omega
        have hB3 := hid ((hB2.out.alloc (by omega) _).trans (hb3.mono (by (try simp); omega)))
        clear hb3
        go_wp2_with fail
        refine (HybridMerge_impl _ _ _ _ _ _).mono ?_
        unfold MergePost
        rw [S.out.1, S.out.2.1, S.out.2.2]
        rintro e w4 ⟨rfl, hb4⟩
        obtain ⟨hc4, hf4⟩ := bcell hb4
        have hz4 := hb4.size
        (try simp at hz4)
        have hs4_0 : w1.heap.size < w4.heap.size := by omega
        have hs4_1 : w1.heap.size + 1 < w4.heap.size := by omega
        have hs4_2 : w2.heap.size < w4.heap.size := by omega
        have hs4_3 : w3.heap.size < w4.heap.size := by omega
        have hw4 : w.heap.size ≤ w4.heap.size := by omega
        have hB4 := hid ((hB3.out.alloc (by omega) _).trans (hb4.mono (by (try simp); omega)))
        clear hb4
        go_wp2
        go_ret
        exact ⟨rfl, (hB4.out.alloc (by omega) _)⟩
      · subst e
        have S := hid ((merge_lo (W := t) (C := k) h2 h1 hp (by omega) (by omega) (by omega) (.inr ⟨rfl, rfl, fun _ => e3⟩)).1 (by omega))
        have R := hid R
        obtain ⟨b2, b3, b4, b5⟩ := b1
        obtain ⟨c2, c3, c4, c5⟩ := b9
        obtain ⟨b6, b7⟩ := bp
        clear h1 h2 hp
        go_wp2_with fail
        refine (HybridMerge_impl _ _ _ _ _ _).mono ?_
        unfold MergePost
        rw [R.out.1, R.out.2.1, R.out.2.2]
        rintro e w2 ⟨rfl, hb2⟩
        obtain ⟨hc2, hf2⟩ := bcell hb2
        have hz2 := hb2.size
        (try simp at hz2)
        have hs2_0 : w1.heap.size < w2.heap.size := by omega
        have hs2_1 : w1.heap.size + 1 < w2.heap.size := by omega
        have hw2 : w.heap.size ≤ w2.heap.size := by omega
        have hB2 := hid (((hB1.out.alloc (by omega) _).alloc (by simp; omega) _).trans (hb2.mono (by (try simp); omega)))
        clear hb2
        go_wp2_with fail
        refine (HybridMerge_spec _ _ _ _ _ _).mono ?_
        unfold MergePost
        rw [R.out.1, R.out.2.1, R.out.2.2]
        rintro e w3 ⟨rfl, hb3⟩
        obtain ⟨hc3, hf3⟩ := bcell hb3
        have hz3 := hb3.size
        (try simp at hz3)
        have hs3_0 : w1.heap.size < w3.heap.size := by omega
        have hs3_1 : w1.heap.size + 1 < w3.heap.size := by omega
        have hs3_2 : w2.heap.size < w3.heap.size := by omega
        have hw3 : w.heap.size ≤ w3.heap.size := by omega
        have hB3 := hid ((hB2.out.alloc (by omega) _).trans (hb3.mono (by (try simp); omega)))
        clear hb3
        go_wp2_with fail
        refine (HybridMerge_impl _ _ _ _ _ _).mono ?_
        unfold MergePost
        rw [S.out.1, S.out.2.1, S.out.2.2]
        rintro e w4 ⟨rfl, hb4⟩
        obtain ⟨hc4, hf4⟩ := bcell hb4
        have hz4 := hb4.size
        (try simp at hz4)
        have hs4_0 : w1.heap.size < w4.heap.size := by omega
        have hs4_1 : w1.heap.size + 1 < w4.heap.size := by omega
        have hs4_2 : w2.heap.size < w4.heap.size := by omega
        have hs4_3 : w3.heap.size < w4.heap.size := by omega
        have hw4 : w.heap.size ≤ w4.heap.size := by omega
        have hB4 := hid ((hB3.out.alloc (by omega) _).trans (hb4.mono (by (try simp); omega)))
        clear hb4
        go_wp2
        go_ret
        exact ⟨rfl, (hB4.out.alloc (by omega) _)⟩
      · subst e
        have S := hid ((merge_lo (W := t) (C := h) h2 h1 hp (by omega) (by omega) (by omega) (.inl ⟨rfl, rfl, fun _ => by omega⟩)).1 (by omega))
        have R := hid R
        obtain ⟨b2, b3, b4, b5⟩ := b1
        obtain ⟨c2, c3, c4, c5⟩ := b9
        obtain ⟨b6, b7⟩ := bp
        clear h1 h2 hp
        go_wp2_with fail
        refine (HybridMerge_impl _ _ _ _ _ _).mono ?_
        unfold MergePost
        rw [R.out.1, R.out.2.1, R.out.2.2]
        rintro e w2 ⟨rfl, hb2⟩
        obtain ⟨hc2, hf2⟩ := bcell hb2
        have hz2 := hb2.size
        (try simp at hz2)
        have hs2_0 : w1.heap.size < w2.heap.size := by omega
        have hs2_1 : w1.heap.size + 1 < w2.heap.size := by omega
        have hw2 : w.heap.size ≤ w2.heap.size := by omega
        have hB2 := hid (((hB1.out.alloc (by omega) _).alloc (by simp; omega) _).trans (hb2.mono (by (try simp); omega)))
        clear hb2
        go_wp2_with fail
        refine (HybridMerge_spec _ _ _ _ _ _).mono ?_
        unfold MergePost
        rw [R.out.1, R.out.2.1, R.out.2.2]
        rintro e w3 ⟨rfl, hb3⟩
        obtain ⟨hc3, hf3⟩ := bcell hb3
        have hz3 := hb3.size
        (try simp at hz3)
        have hs3_0 : w1.heap.size < w3.heap.size := by omega
        have hs3_1 : w1.heap.size + 1 < w3.heap.size := by omega
        have hs3_2 : w2.heap.size < w3.heap.size := by omega
        have hw3 : w.heap.size ≤ w3.heap.size := by omega
        have hB3 := hid ((hB2.out.alloc (by omega) _).trans (hb3.mono (by (try simp); omega)))
        clear hb3
        go_wp2_with fail
        refine (HybridMerge_impl _ _ _ _ _ _).mono ?_
        unfold MergePost
        rw [S.out.1, S.out.2.1, S.out.2.2]
        rintro e w4 ⟨rfl, hb4⟩
        obtain ⟨hc4, hf4⟩ := bcell hb4
        have hz4 := hb4.size
        (try simp at hz4)
        have hs4_0 : w1.heap.size < w4.heap.size := by omega
        have hs4_1 : w1.heap.size + 1 < w4.heap.size := by omega
        have hs4_2 : w2.heap.size < w4.heap.size := by omega
        have hs4_3 : w3.heap.size < w4.heap.size := by omega
        have hw4 : w.heap.size ≤ w4.heap.size := by omega
        have hB4 := hid ((hB3.out.alloc (by omega) _).trans (hb4.mono (by (try simp); omega)))
        clear hb4
        go_wp2
        go_ret
        exact ⟨rfl, (hB4.out.alloc (by omega) _)⟩
end Go.Proofs.Ytmnkamonkmoapaa
