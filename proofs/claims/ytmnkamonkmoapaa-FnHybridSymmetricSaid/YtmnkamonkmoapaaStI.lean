/-
  The walks of the laws FnHybridTick, FnHybridLeast, FnHybridLater, FnHybridMerge, FnHybridSymmetric. No condition.
-/
import Derived.Test.YtmnkamonkmoapaaStG
namespace Go.Proofs.Ytmnkamonkmoapaa
open Go.RowKit

def TickIs (x c p W C : Int) (o : Bool) : Prop := tickW x c p = W ∧ tickC x c p = C ∧ tickOk x c p = o

theorem tick_cases (x c p : Int) : TickIs x c p 0 0 false ∨ (hyB x c = true ∧ inB p 0 999 = true ∧ ((x < p ∧ TickIs x c p p 0 true) ∨ (p ≤ x ∧ c < 99 ∧ TickIs x c p x (c + 1) true))) := by
  cases h : tickOk x c p with
  | false => exact .inl ⟨tickW_no h, tickC_no h, h⟩
  | true =>
    obtain ⟨h1, h2, h3, h4⟩ := tickOk_true.1 h
    refine .inr ⟨h1, inB_true.2 ⟨h2, h3⟩, ?_⟩
    by_cases k : x < p
    · exact .inl ⟨k, tickW_hi h k, tickC_hi h k, h⟩
    · exact .inr ⟨by omega, by omega, tickW_lo h (by omega), tickC_lo h (by omega), h⟩

theorem merge_cases (x c p y d : Int) : MergeIs x c p y d 0 0 false ∨ (hyB x c = true ∧ hyB y d = true ∧ inB p 0 999 = true ∧
    ((x < p ∧ y < p ∧ MergeIs x c p y d p 0 true) ∨ (y < x ∧ p ≤ x ∧ c < 99 ∧ MergeIs x c p y d x (c + 1) true) ∨ (x < y ∧ p ≤ y ∧ d < 99 ∧ MergeIs x c p y d y (d + 1) true) ∨
     (x = y ∧ p ≤ x ∧ d ≤ c ∧ c < 99 ∧ MergeIs x c p y d x (c + 1) true) ∨ (x = y ∧ p ≤ x ∧ c < d ∧ d < 99 ∧ MergeIs x c p y d x (d + 1) true))) := by
  cases h1 : hyB x c with
  | false => exact .inl (merge_no (.inl h1))
  | true =>
    cases h2 : hyB y d with
    | false => exact .inl (merge_no (.inr (.inl h2)))
    | true =>
      cases hp : inB p 0 999 with
      | false => exact .inl (merge_no (.inr (.inr hp)))
      | true =>
        have b1 := hyB_true.1 h1
        have b2 := hyB_true.1 h2
        by_cases hA : x < p ∧ y < p
        · exact .inr ⟨rfl, rfl, rfl, .inl ⟨hA.1, hA.2, merge_hi h1 h2 hp hA.1 hA.2⟩⟩
        · rcases (show y < x ∨ x < y ∨ x = y by omega) with h | h | h
          · have m := merge_lo (W := x) (C := c) h1 h2 hp (by omega) (by omega) (by omega) (.inl ⟨rfl, rfl, fun h => by omega⟩)
            by_cases k : c < 99
            · exact .inr ⟨rfl, rfl, rfl, .inr (.inl ⟨h, by omega, k, m.1 k⟩)⟩
            · exact .inl (m.2 (by omega))
          · have m := merge_lo (W := y) (C := d) h1 h2 hp (by omega) (by omega) (by omega) (.inr ⟨rfl, rfl, fun h => by omega⟩)
            by_cases k : d < 99
            · exact .inr ⟨rfl, rfl, rfl, .inr (.inr (.inl ⟨h, by omega, k, m.1 k⟩))⟩
            · exact .inl (m.2 (by omega))
          · by_cases e : d ≤ c
            · have m := merge_lo (W := x) (C := c) h1 h2 hp (by omega) (by omega) (by omega) (.inl ⟨rfl, rfl, fun h => e⟩)
              by_cases k : c < 99
              · exact .inr ⟨rfl, rfl, rfl, .inr (.inr (.inr (.inl ⟨h, by omega, e, k, m.1 k⟩)))⟩
              · exact .inl (m.2 (by omega))
            · have m := merge_lo (W := x) (C := d) h1 h2 hp (by omega) (by omega) (by omega) (.inr ⟨h.symm, rfl, fun h => by omega⟩)
              by_cases k : d < 99
              · exact .inr ⟨rfl, rfl, rfl, .inr (.inr (.inr (.inr ⟨h, by omega, by omega, k, m.1 k⟩)))⟩
              · exact .inl (m.2 (by omega))

set_option maxHeartbeats 2000000 in
theorem lawHybridTick {a : Option Addr} {len cap : Nat} {zs : List Int} (w : World) (h : RowIs .u8 w a len cap zs) :
    Calls Try.prog 7 #[.slice a len cap] w fun e w' => e = .returned (.bool true) ∧ Below w.heap.size w w' := by
  have hl : len ≤ 9223372036854775807 := by
    rcases h with ⟨rfl, rfl, rfl, rfl⟩ | ⟨x, rfl, hl, hm, _⟩
    · omega
    · unfold maxLen at hm; omega
  by_cases hbig : 1048576 < len
  · clear h
    go_enter Try.func7, Try.ntmps7
    go_wp2
    go_ret
    exact ⟨rfl, Below.refl _ _⟩
  · have h' := hid h
    clear h
    go_enter Try.func7, Try.ntmps7
    go_wp2_with fail
    refine (DrawHybridTick_any w h'.out).mono ?_
    rintro e w1 ⟨t, k, p, rfl, hb1⟩
    have hw1 := hb1.size
    have hB1 := hid hb1
    clear hb1
    rcases tick_cases t k p with R | ⟨h1, hp, R⟩
    · have R := hid R
      go_wp2_with fail
      refine (HybridTick_impl _ _ _ _).mono ?_
      rw [R.out.1, R.out.2.1, R.out.2.2]
      rintro e w2 ⟨rfl, hb2⟩
      obtain ⟨hc2, hf2⟩ := bcell hb2
      have hz2 := hb2.size
      (try simp at hz2)
      have hs2_0 : w1.heap.size < w2.heap.size := by omega
      have hw2 : w.heap.size ≤ w2.heap.size := by omega
      have hB2 := hid ((hB1.out.alloc (by omega) _).trans (hb2.mono (by (try simp); omega)))
      clear hb2
      go_wp2_with fail
      refine (HybridTick_spec _ _ _ _).mono ?_
      rw [R.out.1, R.out.2.1, R.out.2.2]
      rintro e w3 ⟨rfl, hb3⟩
      obtain ⟨hc3, hf3⟩ := bcell hb3
      have hz3 := hb3.size
      (try simp at hz3)
      have hs3_0 : w1.heap.size < w3.heap.size := by omega
      have hs3_1 : w2.heap.size < w3.heap.size := by omega
      have hw3 : w.heap.size ≤ w3.heap.size := by omega
      have hB3 := hid ((hB2.out.alloc (by omega) _).trans (hb3.mono (by (try simp); omega)))
      clear hb3
      go_wp2
      go_ret
      exact ⟨rfl, (hB3.out.alloc (by omega) _)⟩
    · have b1 := hyB_true.1 h1
      have bp := inB_true.1 hp
      rcases R with ⟨e, R⟩ | ⟨e, e2, R⟩
      · have R := hid R
        have hq := hid (show hyL t k p 0 = true by rw [hyL_yes h1 (hyB_true.2 (by omega))]; exact lexB_true.2 (by omega))
        obtain ⟨b2, b3, b4, b5⟩ := b1
        obtain ⟨b6, b7⟩ := bp
        clear h1 hp
        go_wp2_with fail
        refine (HybridTick_impl _ _ _ _).mono ?_
        rw [R.out.1, R.out.2.1, R.out.2.2]
        rintro e w2 ⟨rfl, hb2⟩
        obtain ⟨hc2, hf2⟩ := bcell hb2
        have hz2 := hb2.size
        (try simp at hz2)
        have hs2_0 : w1.heap.size < w2.heap.size := by omega
        have hw2 : w.heap.size ≤ w2.heap.size := by omega
        have hB2 := hid ((hB1.out.alloc (by omega) _).trans (hb2.mono (by (try simp); omega)))
        clear hb2
        go_wp2_with fail
        refine (HybridTick_spec _ _ _ _).mono ?_
        rw [R.out.1, R.out.2.1, R.out.2.2]
        rintro e w3 ⟨rfl, hb3⟩
        obtain ⟨hc3, hf3⟩ := bcell hb3
        have hz3 := hb3.size
        (try simp at hz3)
        have hs3_0 : w1.heap.size < w3.heap.size := by omega
        have hs3_1 : w2.heap.size < w3.heap.size := by omega
        have hw3 : w.heap.size ≤ w3.heap.size := by omega
        have hB3 := hid ((hB2.out.alloc (by omega) _).trans (hb3.mono (by (try simp); omega)))
        clear hb3
        go_wp2_with fail
        refine (HybridLess_impl _ _ _ _ _).mono ?_
        rw [hq.out]
        rintro e w4 ⟨rfl, hb4⟩
        obtain ⟨hc4, hf4⟩ := bcell hb4
        have hz4 := hb4.size
        (try simp at hz4)
        have hs4_0 : w1.heap.size < w4.heap.size := by omega
        have hs4_1 : w2.heap.size < w4.heap.size := by omega
        have hs4_2 : w3.heap.size < w4.heap.size := by omega
        have hw4 : w.heap.size ≤ w4.heap.size := by omega
        have hB4 := hid ((hB3.out.alloc (by omega) _).trans (hb4.mono (by (try simp); omega)))
        clear hb4
        go_wp2
        go_ret
        exact ⟨rfl, hB4.out⟩
      · have R := hid R
        have hq := hid (show hyL t k t (k + 1) = true by rw [hyL_yes h1 (hyB_true.2 (by omega))]; exact lexB_true.2 (by omega))
        obtain ⟨b2, b3, b4, b5⟩ := b1
        obtain ⟨b6, b7⟩ := bp
        clear h1 hp
        go_wp2_with fail
        refine (HybridTick_impl _ _ _ _).mono ?_
        rw [R.out.1, R.out.2.1, R.out.2.2]
        rintro e w2 ⟨rfl, hb2⟩
        obtain ⟨hc2, hf2⟩ := bcell hb2
        have hz2 := hb2.size
        (try simp at hz2)
        have hs2_0 : w1.heap.size < w2.heap.size := by omega
        have hw2 : w.heap.size ≤ w2.heap.size := by omega
        have hB2 := hid ((hB1.out.alloc (by omega) _).trans (hb2.mono (by (try simp); omega)))
        clear hb2
        go_wp2_with fail
        refine (HybridTick_spec _ _ _ _).mono ?_
        rw [R.out.1, R.out.2.1, R.out.2.2]
        rintro e w3 ⟨rfl, hb3⟩
        obtain ⟨hc3, hf3⟩ := bcell hb3
        have hz3 := hb3.size
        (try simp at hz3)
        have hs3_0 : w1.heap.size < w3.heap.size := by omega
        have hs3_1 : w2.heap.size < w3.heap.size := by omega
        have hw3 : w.heap.size ≤ w3.heap.size := by omega
        have hB3 := hid ((hB2.out.alloc (by omega) _).trans (hb3.mono (by (try simp); omega)))
        clear hb3
        go_wp2_with fail
        refine (HybridLess_impl _ _ _ _ _).mono ?_
        rw [hq.out]
        rintro e w4 ⟨rfl, hb4⟩
        obtain ⟨hc4, hf4⟩ := bcell hb4
        have hz4 := hb4.size
        (try simp at hz4)
        have hs4_0 : w1.heap.size < w4.heap.size := by omega
        have hs4_1 : w2.heap.size < w4.heap.size := by omega
        have hs4_2 : w3.heap.size < w4.heap.size := by omega
        have hw4 : w.heap.size ≤ w4.heap.size := by omega
        have hB4 := hid ((hB3.out.alloc (by omega) _).trans (hb4.mono (by (try simp); omega)))
        clear hb4
        go_wp2
        go_ret
        exact ⟨rfl, hB4.out⟩

set_option maxHeartbeats 2000000 in
theorem lawHybridLeast {a : Option Addr} {len cap : Nat} {zs : List Int} (w : World) (h : RowIs .u8 w a len cap zs) :
    Calls Try.prog 9 #[.slice a len cap] w fun e w' => e = .returned (.bool true) ∧ Below w.heap.size w w' := by
  have hl : len ≤ 9223372036854775807 := by
    rcases h with ⟨rfl, rfl, rfl, rfl⟩ | ⟨x, rfl, hl, hm, _⟩
    · omega
    · unfold maxLen at hm; omega
  by_cases hbig : 1048576 < len
  · clear h
    go_enter Try.func9, Try.ntmps9
    go_wp2
    go_ret
    exact ⟨rfl, Below.refl _ _⟩
  · have h' := hid h
    clear h
    go_enter Try.func9, Try.ntmps9
    go_wp2_with fail
    refine (DrawHybridTick_any w h'.out).mono ?_
    rintro e w1 ⟨t, k, p, rfl, hb1⟩
    have hw1 := hb1.size
    have hB1 := hid hb1
    clear hb1
    rcases tick_cases t k p with R | ⟨h1, hp, R⟩
    · have R := hid R
      go_wp2_with fail
      refine (HybridTick_impl _ _ _ _).mono ?_
      rw [R.out.1, R.out.2.1, R.out.2.2]
      rintro e w2 ⟨rfl, hb2⟩
      obtain ⟨hc2, hf2⟩ := bcell hb2
      have hz2 := hb2.size
      (try simp at hz2)
      have hs2_0 : w1.heap.size < w2.heap.size := by omega
      have hw2 : w.heap.size ≤ w2.heap.size := by omega
      have hB2 := hid ((hB1.out.alloc (by omega) _).trans (hb2.mono (by (try simp); omega)))
      clear hb2
      go_wp2_with fail
      refine (HybridTick_spec _ _ _ _).mono ?_
      rw [R.out.1, R.out.2.1, R.out.2.2]
      rintro e w3 ⟨rfl, hb3⟩
      obtain ⟨hc3, hf3⟩ := bcell hb3
      have hz3 := hb3.size
      (try simp at hz3)
      have hs3_0 : w1.heap.size < w3.heap.size := by omega
      have hs3_1 : w2.heap.size < w3.heap.size := by omega
      have hw3 : w.heap.size ≤ w3.heap.size := by omega
      have hB3 := hid ((hB2.out.alloc (by omega) _).trans (hb3.mono (by (try simp); omega)))
      clear hb3
      go_wp2
      go_ret
      exact ⟨rfl, (hB3.out.alloc (by omega) _)⟩
    · have b1 := hyB_true.1 h1
      have bp := inB_true.1 hp
      rcases R with ⟨e, R⟩ | ⟨e, e2, R⟩
      · have R := hid R
        have hq := hid (show hyL t k p 0 = true by rw [hyL_yes h1 (hyB_true.2 (by omega))]; exact lexB_true.2 (by omega))
        obtain ⟨b2, b3, b4, b5⟩ := b1
        obtain ⟨b6, b7⟩ := bp
        clear h1 hp
        go_wp2_with fail
        refine (HybridTick_impl _ _ _ _).mono ?_
        rw [R.out.1, R.out.2.1, R.out.2.2]
        rintro e w2 ⟨rfl, hb2⟩
        obtain ⟨hc2, hf2⟩ := bcell hb2
        have hz2 := hb2.size
        (try simp at hz2)
        have hs2_0 : w1.heap.size < w2.heap.size := by omega
        have hw2 : w.heap.size ≤ w2.heap.size := by omega
        have hB2 := hid ((hB1.out.alloc (by omega) _).trans (hb2.mono (by (try simp); omega)))
        clear hb2
        go_wp2_with fail
        refine (HybridTick_spec _ _ _ _).mono ?_
        rw [R.out.1, R.out.2.1, R.out.2.2]
        rintro e w3 ⟨rfl, hb3⟩
        obtain ⟨hc3, hf3⟩ := bcell hb3
        have hz3 := hb3.size
        (try simp at hz3)
        have hs3_0 : w1.heap.size < w3.heap.size := by omega
        have hs3_1 : w2.heap.size < w3.heap.size := by omega
        have hw3 : w.heap.size ≤ w3.heap.size := by omega
        have hB3 := hid ((hB2.out.alloc (by omega) _).trans (hb3.mono (by (try simp); omega)))
        clear hb3
        go_wp2
        go_ret
        exact ⟨rfl, (hB3.out.alloc (by omega) _)⟩
      · have R := hid R
        have hq := hid (show hyL t k t (k + 1) = true by rw [hyL_yes h1 (hyB_true.2 (by omega))]; exact lexB_true.2 (by omega))
        have hq2 := hid (show hyL t k t k = false by rw [hyL_yes h1 h1]; exact lexB_irr _ _)
        obtain ⟨b2, b3, b4, b5⟩ := b1
        obtain ⟨b6, b7⟩ := bp
        clear h1 hp
        go_wp2_with fail
        refine (HybridTick_impl _ _ _ _).mono ?_
        rw [R.out.1, R.out.2.1, R.out.2.2]
        rintro e w2 ⟨rfl, hb2⟩
        obtain ⟨hc2, hf2⟩ := bcell hb2
        have hz2 := hb2.size
        (try simp at hz2)
        have hs2_0 : w1.heap.size < w2.heap.size := by omega
        have hw2 : w.heap.size ≤ w2.heap.size := by omega
        have hB2 := hid ((hB1.out.alloc (by omega) _).trans (hb2.mono (by (try simp); omega)))
        clear hb2
        go_wp2_with fail
        refine (HybridTick_spec _ _ _ _).mono ?_
        rw [R.out.1, R.out.2.1, R.out.2.2]
        rintro e w3 ⟨rfl, hb3⟩
        obtain ⟨hc3, hf3⟩ := bcell hb3
        have hz3 := hb3.size
        (try simp at hz3)
        have hs3_0 : w1.heap.size < w3.heap.size := by omega
        have hs3_1 : w2.heap.size < w3.heap.size := by omega
        have hw3 : w.heap.size ≤ w3.heap.size := by omega
        have hB3 := hid ((hB2.out.alloc (by omega) _).trans (hb3.mono (by (try simp); omega)))
        clear hb3
        go_wp2_with fail
        refine (HybridLess_impl _ _ _ _ _).mono ?_
        rw [hq2.out]
        rintro e w4 ⟨rfl, hb4⟩
        obtain ⟨hc4, hf4⟩ := bcell hb4
        have hz4 := hb4.size
        (try simp at hz4)
        have hs4_0 : w1.heap.size < w4.heap.size := by omega
        have hs4_1 : w2.heap.size < w4.heap.size := by omega
        have hs4_2 : w3.heap.size < w4.heap.size := by omega
        have hs4_3 : w3.heap.size + 1 < w4.heap.size := by omega
        have hw4 : w.heap.size ≤ w4.heap.size := by omega
        have hB4 := hid (((hB3.out.alloc (by omega) _).alloc (by simp; omega) _).trans (hb4.mono (by (try simp); omega)))
        clear hb4
        go_wp2
        go_ret
        exact ⟨rfl, hB4.out⟩

set_option maxHeartbeats 2000000 in
theorem lawHybridLater {a : Option Addr} {len cap : Nat} {zs : List Int} (w : World) (h : RowIs .u8 w a len cap zs) :
    Calls Try.prog 13 #[.slice a len cap] w fun e w' => e = .returned (.bool true) ∧ Below w.heap.size w w' := by
  have hl : len ≤ 9223372036854775807 := by
    rcases h with ⟨rfl, rfl, rfl, rfl⟩ | ⟨x, rfl, hl, hm, _⟩
    · omega
    · unfold maxLen at hm; omega
  by_cases hbig : 1048576 < len
  · clear h
    go_enter Try.func13, Try.ntmps13
    go_wp2
    go_ret
    exact ⟨rfl, Below.refl _ _⟩
  · have h' := hid h
    clear h
    go_enter Try.func13, Try.ntmps13
    go_wp2_with fail
    refine (DrawHybridTick_any w h'.out).mono ?_
    rintro e w1 ⟨t, k, p, rfl, hb1⟩
    have hw1 := hb1.size
    have hB1 := hid hb1
    clear hb1
    rcases tick_cases t k p with R | ⟨h1, hp, R⟩
    · have R := hid R
      go_wp2_with fail
      refine (HybridTick_impl _ _ _ _).mono ?_
      rw [R.out.1, R.out.2.1, R.out.2.2]
      rintro e w2 ⟨rfl, hb2⟩
      obtain ⟨hc2, hf2⟩ := bcell hb2
      have hz2 := hb2.size
      (try simp at hz2)
      have hs2_0 : w1.heap.size < w2.heap.size := by omega
      have hw2 : w.heap.size ≤ w2.heap.size := by omega
      have hB2 := hid ((hB1.out.alloc (by omega) _).trans (hb2.mono (by (try simp); omega)))
      clear hb2
      go_wp2_with fail
      refine (HybridTick_spec _ _ _ _).mono ?_
      rw [R.out.1, R.out.2.1, R.out.2.2]
      rintro e w3 ⟨rfl, hb3⟩
      obtain ⟨hc3, hf3⟩ := bcell hb3
      have hz3 := hb3.size
      (try simp at hz3)
      have hs3_0 : w1.heap.size < w3.heap.size := by omega
      have hs3_1 : w2.heap.size < w3.heap.size := by omega
      have hw3 : w.heap.size ≤ w3.heap.size := by omega
      have hB3 := hid ((hB2.out.alloc (by omega) _).trans (hb3.mono (by (try simp); omega)))
      clear hb3
      go_wp2
      go_ret
      exact ⟨rfl, (hB3.out.alloc (by omega) _)⟩
    · have b1 := hyB_true.1 h1
      have bp := inB_true.1 hp
      rcases R with ⟨e, R⟩ | ⟨e, e2, R⟩
      · have R := hid R
        have hq := hid (show hyL t k p 0 = true by rw [hyL_yes h1 (hyB_true.2 (by omega))]; exact lexB_true.2 (by omega))
        obtain ⟨b2, b3, b4, b5⟩ := b1
        obtain ⟨b6, b7⟩ := bp
        clear h1 hp
        go_wp2_with fail
        refine (HybridTick_impl _ _ _ _).mono ?_
        rw [R.out.1, R.out.2.1, R.out.2.2]
        rintro e w2 ⟨rfl, hb2⟩
        obtain ⟨hc2, hf2⟩ := bcell hb2
        have hz2 := hb2.size
        (try simp at hz2)
        have hs2_0 : w1.heap.size < w2.heap.size := by omega
        have hw2 : w.heap.size ≤ w2.heap.size := by omega
        have hB2 := hid ((hB1.out.alloc (by omega) _).trans (hb2.mono (by (try simp); omega)))
        clear hb2
        go_wp2_with fail
        refine (HybridTick_spec _ _ _ _).mono ?_
        rw [R.out.1, R.out.2.1, R.out.2.2]
        rintro e w3 ⟨rfl, hb3⟩
        obtain ⟨hc3, hf3⟩ := bcell hb3
        have hz3 := hb3.size
        (try simp at hz3)
        have hs3_0 : w1.heap.size < w3.heap.size := by omega
        have hs3_1 : w2.heap.size < w3.heap.size := by omega
        have hw3 : w.heap.size ≤ w3.heap.size := by omega
        have hB3 := hid ((hB2.out.alloc (by omega) _).trans (hb3.mono (by (try simp); omega)))
        clear hb3
        go_wp2
        go_ret
        exact ⟨rfl, (hB3.out.alloc (by omega) _)⟩
      · have R := hid R
        have hq := hid (show hyL t k t (k + 1) = true by rw [hyL_yes h1 (hyB_true.2 (by omega))]; exact lexB_true.2 (by omega))
        obtain ⟨b2, b3, b4, b5⟩ := b1
        obtain ⟨b6, b7⟩ := bp
        clear h1 hp
        go_wp2_with fail
        refine (HybridTick_impl _ _ _ _).mono ?_
        rw [R.out.1, R.out.2.1, R.out.2.2]
        rintro e w2 ⟨rfl, hb2⟩
        obtain ⟨hc2, hf2⟩ := bcell hb2
        have hz2 := hb2.size
        (try simp at hz2)
        have hs2_0 : w1.heap.size < w2.heap.size := by omega
        have hw2 : w.heap.size ≤ w2.heap.size := by omega
        have hB2 := hid ((hB1.out.alloc (by omega) _).trans (hb2.mono (by (try simp); omega)))
        clear hb2
        go_wp2_with fail
        refine (HybridTick_spec _ _ _ _).mono ?_
        rw [R.out.1, R.out.2.1, R.out.2.2]
        rintro e w3 ⟨rfl, hb3⟩
        obtain ⟨hc3, hf3⟩ := bcell hb3
        have hz3 := hb3.size
        (try simp at hz3)
        have hs3_0 : w1.heap.size < w3.heap.size := by omega
        have hs3_1 : w2.heap.size < w3.heap.size := by omega
        have hw3 : w.heap.size ≤ w3.heap.size := by omega
        have hB3 := hid ((hB2.out.alloc (by omega) _).trans (hb3.mono (by (try simp); omega)))
        clear hb3
        go_wp2
        go_ret
        exact ⟨rfl, (hB3.out.alloc (by omega) _)⟩
end Go.Proofs.Ytmnkamonkmoapaa
