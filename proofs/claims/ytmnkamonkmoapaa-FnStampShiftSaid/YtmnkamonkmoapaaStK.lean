/-
  The walks of the laws FnStampThree and FnStampShift. No condition.
-/
import Derived.Test.YtmnkamonkmoapaaStG
namespace Go.Proofs.Ytmnkamonkmoapaa
open Go.RowKit

theorem RowIs.below {k : IntKind} {w w' : World} {a : Option Addr} {len cap : Nat} {zs : List Int} (h : RowIs k w a len cap zs) (hb : Below w.heap.size w w') : RowIs k w' a len cap zs := by
  rcases h with h | ⟨x, rfl, hl, hm, hz, hc, hw⟩
  · exact .inl h
  · exact .inr ⟨x, rfl, hl, hm, hz, fun i hi => (hb.cell (World.block_lt_of_cell? w _ (hc i hi))).trans (hc i hi), hw⟩

theorem RowIs.len_le {k : IntKind} {w : World} {a : Option Addr} {len cap : Nat} {zs : List Int} (h : RowIs k w a len cap zs) : len ≤ 9223372036854775807 := by
  rcases h with ⟨rfl, rfl, rfl, rfl⟩ | ⟨x, rfl, hl, hm, _⟩
  · omega
  · unfold maxLen at hm; omega

set_option maxHeartbeats 2000000 in
theorem lawStampThree {a b : Option Addr} {len cap lem cbp : Nat} {zs ys : List Int} (w : World) (h : RowIs .u8 w a len cap zs) (g : RowIs .u8 w b lem cbp ys) :
    Calls Try.prog 4 #[.slice a len cap, .slice b lem cbp] w fun e w' => e = .returned (.bool true) ∧ Below w.heap.size w w' := by
  have hl := h.len_le
  have gl := g.len_le
  by_cases hbig : 1048576 < len ∨ 1048576 < lem
  · clear h g
    by_cases hbig2 : 1048576 < len
    · go_enter Try.func4, Try.ntmps4
      go_wp2
      go_ret
      exact ⟨rfl, Below.refl _ _⟩
    · have hbig3 : 1048576 < lem := by omega
      clear hbig
      go_enter Try.func4, Try.ntmps4
      go_wp2
      go_ret
      exact ⟨rfl, Below.refl _ _⟩
  · have h' := hid h
    have g' := hid g
    have hbig2 : ¬ 1048576 < len := by omega
    have hbig3 : ¬ 1048576 < lem := by omega
    clear h g hbig
    go_enter Try.func4, Try.ntmps4
    go_wp2_with fail
    refine (DrawStampLess_any w h'.out).mono ?_
    rintro e w1 ⟨t, k, u, h, rfl, hb1⟩
    have hw1 := hb1.size
    have hB1 := hid hb1
    clear hb1
    cases hr : stL t k u h with
    | false =>
      replace hr := hid hr
      go_wp2_with fail
      refine (StampLess_impl _ _ _ _ _).mono ?_
      rw [hr.out]
      rintro e w2 ⟨rfl, hb2⟩
      obtain ⟨hc2, hf2⟩ := bcell hb2
      have hz2 := hb2.size
      (try simp at hz2)
      have hs2_0 : w1.heap.size < w2.heap.size := by omega
      have hs2_1 : w1.heap.size + 1 < w2.heap.size := by omega
      have hw2 : w.heap.size ≤ w2.heap.size := by omega
      have hB2 := hid (((hB1.out.alloc (by omega) _).alloc (by simp; omega) _).trans (hb2.mono (by (try simp); omega)))
      clear hb2
      go_wp2_with fail
      refine (StampLess_spec _ _ _ _ _).mono ?_
      rw [hr.out]
      rintro e w3 ⟨rfl, hb3⟩
      obtain ⟨hc3, hf3⟩ := bcell hb3
      have hz3 := hb3.size
      have hs3_0 : w1.heap.size < w3.heap.size := by omega
      have hs3_1 : w1.heap.size + 1 < w3.heap.size := by omega
      have hw3 : w.heap.size ≤ w3.heap.size := by omega
      have hB3 := hid (hB2.out.trans (hb3.mono (by omega)))
      clear hb3
      go_wp2
      go_ret
      exact ⟨rfl, hB3.out⟩
    | true =>
      have hr2 := hid hr
      clear hr
      go_wp2_with fail
      refine (StampLess_impl _ _ _ _ _).mono ?_
      rw [hr2.out]
      rintro e w2 ⟨rfl, hb2⟩
      obtain ⟨hc2, hf2⟩ := bcell hb2
      have hz2 := hb2.size
      (try simp at hz2)
      have hs2_0 : w1.heap.size < w2.heap.size := by omega
      have hs2_1 : w1.heap.size + 1 < w2.heap.size := by omega
      have hw2 : w.heap.size ≤ w2.heap.size := by omega
      have hB2 := hid (((hB1.out.alloc (by omega) _).alloc (by simp; omega) _).trans (hb2.mono (by (try simp); omega)))
      clear hb2
      go_wp2_with fail
      refine (StampLess_spec _ _ _ _ _).mono ?_
      rw [hr2.out]
      rintro e w3 ⟨rfl, hb3⟩
      obtain ⟨hc3, hf3⟩ := bcell hb3
      have hz3 := hb3.size
      have hs3_0 : w1.heap.size < w3.heap.size := by omega
      have hs3_1 : w1.heap.size + 1 < w3.heap.size := by omega
      have hw3 : w.heap.size ≤ w3.heap.size := by omega
      have hB3 := hid (hB2.out.trans (hb3.mono (by omega)))
      clear hb3
      go_wp2_with fail
      refine (DrawStampLess_any w3 (g'.out.below hB3.out)).mono ?_
      rintro e w4 ⟨x, y, x2, y2, rfl, hb4⟩
      obtain ⟨hc4, hf4⟩ := bcell hb4
      have hz4 := hb4.size
      have hs4_0 : w1.heap.size < w4.heap.size := by omega
      have hs4_1 : w1.heap.size + 1 < w4.heap.size := by omega
      have hw4 : w.heap.size ≤ w4.heap.size := by omega
      have hB4 := hid (hB3.out.trans (hb4.mono (by omega)))
      clear hb4
      cases hq : stL u h x y with
      | false =>
        replace hq := hid hq
        have ht5_0 : w1.heap.size ≤ w4.heap.size + 1 := by omega
        have hu5_0 : w1.heap.size < w4.heap.size + 2 := by omega
        have ht5_1 : w1.heap.size + 1 ≤ w4.heap.size + 1 := by omega
        have hu5_1 : w1.heap.size + 1 < w4.heap.size + 2 := by omega
        go_wp2_with fail
        refine (StampLess_impl _ _ _ _ _).mono ?_
        rw [hq.out]
        rintro e w5 ⟨rfl, hb5⟩
        obtain ⟨hc5, hf5⟩ := bcell hb5
        have hz5 := hb5.size
        (try simp at hz5)
        have hs5_0 : w1.heap.size < w5.heap.size := by omega
        have hs5_1 : w1.heap.size + 1 < w5.heap.size := by omega
        have hs5_2 : w4.heap.size < w5.heap.size := by omega
        have hs5_3 : w4.heap.size + 1 < w5.heap.size := by omega
        have hw5 : w.heap.size ≤ w5.heap.size := by omega
        have hB5 := hid (((hB4.out.alloc (by omega) _).alloc (by simp; omega) _).trans (hb5.mono (by (try simp); omega)))
        clear hb5
        go_wp2
        go_ret
        exact ⟨rfl, hB5.out⟩
      | true =>
        have ht : Hid (stL t k x y = true) := by
          have hr := hr2.out
          simp only [stL, Bool.and_eq_true] at hr hq ⊢
          exact hid ⟨⟨hr.1.1, hq.1.2⟩, lexB_trans hr.2 hq.2⟩
        replace hq := hid hq
        have ht5_0 : w1.heap.size ≤ w4.heap.size + 1 := by omega
        have hu5_0 : w1.heap.size < w4.heap.size + 2 := by omega
        have ht5_1 : w1.heap.size + 1 ≤ w4.heap.size + 1 := by omega
        have hu5_1 : w1.heap.size + 1 < w4.heap.size + 2 := by omega
        go_wp2_with fail
        refine (StampLess_impl _ _ _ _ _).mono ?_
        rw [hq.out]
        rintro e w5 ⟨rfl, hb5⟩
        obtain ⟨hc5, hf5⟩ := bcell hb5
        have hz5 := hb5.size
        (try simp at hz5)
        have hs5_0 : w1.heap.size < w5.heap.size := by omega
        have hs5_1 : w1.heap.size + 1 < w5.heap.size := by omega
        have hs5_2 : w4.heap.size < w5.heap.size := by omega
        have hs5_3 : w4.heap.size + 1 < w5.heap.size := by omega
        have hw5 : w.heap.size ≤ w5.heap.size := by omega
        have hB5 := hid (((hB4.out.alloc (by omega) _).alloc (by simp; omega) _).trans (hb5.mono (by (try simp); omega)))
        clear hb5
        go_wp2_with fail
        refine (StampLess_impl _ _ _ _ _).mono ?_
        rw [ht.out]
        rintro e w6 ⟨rfl, hb6⟩
        obtain ⟨hc6, hf6⟩ := bcell hb6
        have hz6 := hb6.size
        have hs6_0 : w1.heap.size < w6.heap.size := by omega
        have hs6_1 : w1.heap.size + 1 < w6.heap.size := by omega
        have hs6_2 : w4.heap.size < w6.heap.size := by omega
        have hs6_3 : w4.heap.size + 1 < w6.heap.size := by omega
        have hw6 : w.heap.size ≤ w6.heap.size := by omega
        have hB6 := hid (hB5.out.trans (hb6.mono (by omega)))
        clear hb6
        go_wp2
        go_ret
        exact ⟨rfl, hB6.out⟩

set_option maxHeartbeats 2000000 in
theorem lawStampShift {a b : Option Addr} {len cap lem cbp : Nat} {zs ys : List Int} (w : World) (h : RowIs .u8 w a len cap zs) (g : RowIs .u8 w b lem cbp ys) :
    Calls Try.prog 12 #[.slice a len cap, .slice b lem cbp] w fun e w' => e = .returned (.bool true) ∧ Below w.heap.size w w' := by
  have hl := h.len_le
  have gl := g.len_le
  by_cases hbig : 1048576 < len ∨ 1048576 < lem
  · clear h g
    by_cases hbig2 : 1048576 < len
    · go_enter Try.func12, Try.ntmps12
      go_wp2
      go_ret
      exact ⟨rfl, Below.refl _ _⟩
    · have hbig3 : 1048576 < lem := by omega
      clear hbig
      go_enter Try.func12, Try.ntmps12
      go_wp2
      go_ret
      exact ⟨rfl, Below.refl _ _⟩
  · have h' := hid h
    have g' := hid g
    have hbig2 : ¬ 1048576 < len := by omega
    have hbig3 : ¬ 1048576 < lem := by omega
    clear h g hbig
    go_enter Try.func12, Try.ntmps12
    go_wp2_with fail
    refine (DrawStampLess_any w h'.out).mono ?_
    rintro e w1 ⟨t, k, u, h, rfl, hb1⟩
    have hw1 := hb1.size
    have hB1 := hid hb1
    clear hb1
    cases h1 : stB t k with
    | false =>
      have hr := hid (stL_no1 (u := u) (h := h) h1)
      replace h1 := hid h1
      go_wp2_with fail
      refine (StampLess_impl _ _ _ _ _).mono ?_
      rw [hr.out]
      rintro e w2 ⟨rfl, hb2⟩
      obtain ⟨hc2, hf2⟩ := bcell hb2
      have hz2 := hb2.size
      (try simp at hz2)
      have hs2_0 : w1.heap.size < w2.heap.size := by omega
      have hs2_1 : w1.heap.size + 1 < w2.heap.size := by omega
      have hw2 : w.heap.size ≤ w2.heap.size := by omega
      have hB2 := hid (((hB1.out.alloc (by omega) _).alloc (by simp; omega) _).trans (hb2.mono (by (try simp); omega)))
      clear hb2
      go_wp2_with fail
      refine (StampLess_spec _ _ _ _ _).mono ?_
      rw [hr.out]
      rintro e w3 ⟨rfl, hb3⟩
      obtain ⟨hc3, hf3⟩ := bcell hb3
      have hz3 := hb3.size
      have hs3_0 : w1.heap.size < w3.heap.size := by omega
      have hs3_1 : w1.heap.size + 1 < w3.heap.size := by omega
      have hw3 : w.heap.size ≤ w3.heap.size := by omega
      have hB3 := hid (hB2.out.trans (hb3.mono (by omega)))
      clear hb3
      go_wp2_with fail
      refine (StampValid_spec _ _ _).mono ?_
      rw [h1.out]
      rintro e w4 ⟨rfl, hb4⟩
      obtain ⟨hc4, hf4⟩ := bcell hb4
      have hz4 := hb4.size
      have hs4_0 : w1.heap.size < w4.heap.size := by omega
      have hs4_1 : w1.heap.size + 1 < w4.heap.size := by omega
      have hw4 : w.heap.size ≤ w4.heap.size := by omega
      have hB4 := hid (hB3.out.trans (hb4.mono (by omega)))
      clear hb4
      go_wp2
      go_ret
      exact ⟨rfl, hB4.out⟩
    | true =>
      cases h2 : stB u h with
      | false =>
        have hr := hid (stL_no2 (t := t) (g := k) h2)
        replace h1 := hid h1
        replace h2 := hid h2
        go_wp2_with fail
        refine (StampLess_impl _ _ _ _ _).mono ?_
        rw [hr.out]
        rintro e w2 ⟨rfl, hb2⟩
        obtain ⟨hc2, hf2⟩ := bcell hb2
        have hz2 := hb2.size
        (try simp at hz2)
        have hs2_0 : w1.heap.size < w2.heap.size := by omega
        have hs2_1 : w1.heap.size + 1 < w2.heap.size := by omega
        have hw2 : w.heap.size ≤ w2.heap.size := by omega
        have hB2 := hid (((hB1.out.alloc (by omega) _).alloc (by simp; omega) _).trans (hb2.mono (by (try simp); omega)))
        clear hb2
        go_wp2_with fail
        refine (StampLess_spec _ _ _ _ _).mono ?_
        rw [hr.out]
        rintro e w3 ⟨rfl, hb3⟩
        obtain ⟨hc3, hf3⟩ := bcell hb3
        have hz3 := hb3.size
        have hs3_0 : w1.heap.size < w3.heap.size := by omega
        have hs3_1 : w1.heap.size + 1 < w3.heap.size := by omega
        have hw3 : w.heap.size ≤ w3.heap.size := by omega
        have hB3 := hid (hB2.out.trans (hb3.mono (by omega)))
        clear hb3
        go_wp2_with fail
        refine (StampValid_spec _ _ _).mono ?_
        rw [h1.out]
        rintro e w4 ⟨rfl, hb4⟩
        obtain ⟨hc4, hf4⟩ := bcell hb4
        have hz4 := hb4.size
        have hs4_0 : w1.heap.size < w4.heap.size := by omega
        have hs4_1 : w1.heap.size + 1 < w4.heap.size := by omega
        have hw4 : w.heap.size ≤ w4.heap.size := by omega
        have hB4 := hid (hB3.out.trans (hb4.mono (by omega)))
        clear hb4
        go_wp2_with fail
        refine (StampValid_spec _ _ _).mono ?_
        rw [h2.out]
        rintro e w5 ⟨rfl, hb5⟩
        obtain ⟨hc5, hf5⟩ := bcell hb5
        have hz5 := hb5.size
        have hs5_0 : w1.heap.size < w5.heap.size := by omega
        have hs5_1 : w1.heap.size + 1 < w5.heap.size := by omega
        have hw5 : w.heap.size ≤ w5.heap.size := by omega
        have hB5 := hid (hB4.out.trans (hb5.mono (by omega)))
        clear hb5
        go_wp2
        go_ret
        exact ⟨rfl, hB5.out⟩
      | true =>
        obtain ⟨b1, b2, b3, b4⟩ := stB_true.1 h1
        obtain ⟨c1, c2, c3, c4⟩ := stB_true.1 h2
        obtain ⟨v, hv⟩ : ∃ v, stL t k u h = v := ⟨_, rfl⟩
        have hd0 : 0 ≤ (lem : Int) % 50 := by omega
        have hd1 : (lem : Int) % 50 < 50 := by omega
        have hs : t + (lem : Int) % 50 ≤ 999 → u + (lem : Int) % 50 ≤ 999 → stL (t + (lem : Int) % 50) k (u + (lem : Int) % 50) h = v := by
          intro p1 p2
          rw [← hv, stL_yes h1 h2, stL_yes (stB_true.2 (by omega)) (stB_true.2 (by omega))]
          rw [Bool.eq_iff_iff, lexB_true, lexB_true]; omega
        replace hs := hid hs
        replace hv := hid hv
        replace h1 := hid h1
        replace h2 := hid h2
        go_wp2_with fail
        refine (StampLess_impl _ _ _ _ _).mono ?_
        rw [hv.out]
        rintro e w2 ⟨rfl, hb2⟩
        obtain ⟨hc2, hf2⟩ := bcell hb2
        have hz2 := hb2.size
        (try simp at hz2)
        have hs2_0 : w1.heap.size < w2.heap.size := by omega
        have hs2_1 : w1.heap.size + 1 < w2.heap.size := by omega
        have hw2 : w.heap.size ≤ w2.heap.size := by omega
        have hB2 := hid (((hB1.out.alloc (by omega) _).alloc (by simp; omega) _).trans (hb2.mono (by (try simp); omega)))
        clear hb2
        go_wp2_with fail
        refine (StampLess_spec _ _ _ _ _).mono ?_
        rw [hv.out]
        rintro e w3 ⟨rfl, hb3⟩
        obtain ⟨hc3, hf3⟩ := bcell hb3
        have hz3 := hb3.size
        have hs3_0 : w1.heap.size < w3.heap.size := by omega
        have hs3_1 : w1.heap.size + 1 < w3.heap.size := by omega
        have hw3 : w.heap.size ≤ w3.heap.size := by omega
        have hB3 := hid (hB2.out.trans (hb3.mono (by omega)))
        clear hb3
        go_wp2_with fail
        refine (StampValid_spec _ _ _).mono ?_
        rw [h1.out]
        rintro e w4 ⟨rfl, hb4⟩
        obtain ⟨hc4, hf4⟩ := bcell hb4
        have hz4 := hb4.size
        have hs4_0 : w1.heap.size < w4.heap.size := by omega
        have hs4_1 : w1.heap.size + 1 < w4.heap.size := by omega
        have hw4 : w.heap.size ≤ w4.heap.size := by omega
        have hB4 := hid (hB3.out.trans (hb4.mono (by omega)))
        clear hb4
        go_wp2_with fail
        refine (StampValid_spec _ _ _).mono ?_
        rw [h2.out]
        rintro e w5 ⟨rfl, hb5⟩
        obtain ⟨hc5, hf5⟩ := bcell hb5
        have hz5 := hb5.size
        have hs5_0 : w1.heap.size < w5.heap.size := by omega
        have hs5_1 : w1.heap.size + 1 < w5.heap.size := by omega
        have hw5 : w.heap.size ≤ w5.heap.size := by omega
        have hB5 := hid (hB4.out.trans (hb5.mono (by omega)))
        clear hb5
        by_cases k1 : 999 < t + (lem : Int) % 50
        · go_wp2
          go_ret
          exact ⟨rfl, ((hB5.out.alloc (by omega) _).alloc (by simp; omega) _)⟩
        · by_cases k2 : 999 < u + (lem : Int) % 50
          · go_wp2
            go_ret
            exact ⟨rfl, ((hB5.out.alloc (by omega) _).alloc (by simp; omega) _)⟩
          · have hs2 := hid (hs.out (by omega) (by omega))
            have ht6_0 : w1.heap.size ≤ w5.heap.size + 1 := by omega
            have hu6_0 : w1.heap.size < w5.heap.size + 2 := by omega
            have ht6_1 : w1.heap.size + 1 ≤ w5.heap.size + 1 := by omega
            have hu6_1 : w1.heap.size + 1 < w5.heap.size + 2 := by omega
            go_wp2_with fail
            refine (StampLess_impl _ _ _ _ _).mono ?_
            rw [hs2.out]
            rintro e w6 ⟨rfl, hb6⟩
            obtain ⟨hc6, hf6⟩ := bcell hb6
            have hz6 := hb6.size
            (try simp at hz6)
            have hs6_0 : w1.heap.size < w6.heap.size := by omega
            have hs6_1 : w1.heap.size + 1 < w6.heap.size := by omega
            have hs6_2 : w5.heap.size < w6.heap.size := by omega
            have hs6_3 : w5.heap.size + 1 < w6.heap.size := by omega
            have hw6 : w.heap.size ≤ w6.heap.size := by omega
            have hB6 := hid (((hB5.out.alloc (by omega) _).alloc (by simp; omega) _).trans (hb6.mono (by (try simp); omega)))
            clear hb6
            go_wp2
            go_ret
            exact ⟨rfl, hB6.out⟩
end Go.Proofs.Ytmnkamonkmoapaa
