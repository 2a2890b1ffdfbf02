/-
  Contracts of the exact laws' helpers toStamp, toHybrid, eqStamp, eqHybrid; the walks of the exact laws of StampValid, HybridValid, HybridTick. No condition.
-/
import Derived.Test.YtmbmdhojefdihaaStE
import Derived.Test.YtmbmdhojefdihaaExA
namespace Go.Proofs.Ytmbmdhojefdihaa
open Go.RowKit

set_option maxHeartbeats 400000 in
theorem toStamp_any (a b : Int) (w : World) :
    Calls Try.prog 11 #[two a b] w fun e w' => e = .returned (two a b) ∧ Below w.heap.size w w' := by
  have B := hid (below3 w (.cells #[.int .i64 a, .int .i64 b] 23) (.cells #[.int .i64 a, .int .i64 b] 25) (.cells #[.int .i64 a, .int .i64 b] 25))
  go_enter Try.func11, Try.ntmps11
  go_wp2
  exact bodyPost_ret (v := two a b) (by simp [results, Try.results11, go_sem]) rfl ⟨rfl, B.out⟩

set_option maxHeartbeats 400000 in
theorem toHybrid_any (a b : Int) (w : World) :
    Calls Try.prog 22 #[two a b] w fun e w' => e = .returned (two a b) ∧ Below w.heap.size w w' := by
  have B := hid (below3 w (.cells #[.int .i64 a, .int .i64 b] 39) (.cells #[.int .i64 a, .int .i64 b] 41) (.cells #[.int .i64 a, .int .i64 b] 41))
  go_enter Try.func22, Try.ntmps22
  go_wp2
  exact bodyPost_ret (v := two a b) (by simp [results, Try.results22, go_sem]) rfl ⟨rfl, B.out⟩

set_option maxHeartbeats 400000 in
theorem eqStamp_same (a b : Int) (w : World) :
    Calls Try.prog 19 #[two a b, two a b] w fun e w' => e = .returned (.bool true) ∧ Below w.heap.size w w' := by
  have B := hid (below2 w (.cells #[.int .i64 a, .int .i64 b] 25) (.cells #[.int .i64 a, .int .i64 b] 25))
  go_enter Try.func19, Try.ntmps19
  go_wp2
  go_ret
  exact ⟨rfl, B.out⟩

set_option maxHeartbeats 400000 in
theorem eqHybrid_same (a b : Int) (w : World) :
    Calls Try.prog 28 #[two a b, two a b] w fun e w' => e = .returned (.bool true) ∧ Below w.heap.size w w' := by
  have B := hid (below2 w (.cells #[.int .i64 a, .int .i64 b] 41) (.cells #[.int .i64 a, .int .i64 b] 41))
  go_enter Try.func28, Try.ntmps28
  go_wp2
  go_ret
  exact ⟨rfl, B.out⟩

set_option maxHeartbeats 2000000 in
theorem exStampValid (a b : Int) (w : World) :
    Calls Try.prog 3 #[two a b] w fun e w' => e = .returned (.bool true) ∧ Below w.heap.size w w' := by
  obtain ⟨w1, hw⟩ : ∃ w1, w = w1 := ⟨_, rfl⟩
  have hw1 : w.heap.size ≤ w1.heap.size := by rw [hw]; exact Nat.le_refl _
  have hB1 := hid (show Below w.heap.size w w1 by rw [hw]; exact Below.refl _ _)
  rw [show Calls Try.prog 3 #[two a b] w = Calls Try.prog 3 #[two a b] w1 by rw [hw]]
  clear hw
  go_enter Try.func3, Try.ntmps3
  go_wp2_with fail
  refine (toStamp_any _ _ _).mono ?_
  rintro e w2 ⟨rfl, hb2⟩
  obtain ⟨hc2, hf2⟩ := bcell hb2
  have hz2 := hb2.size
  (try simp at hz2)
  have hs2_0 : w1.heap.size < w2.heap.size := by omega
  have hw2 : w.heap.size ≤ w2.heap.size := by omega
  have hB2 := hid ((hB1.out.alloc (by omega) _).trans (hb2.mono (by (try simp); omega)))
  clear hb2
  go_wp2_with fail
  refine (StampValid_spec _ _ _).mono ?_
  rintro e w3 ⟨rfl, hb3⟩
  obtain ⟨hc3, hf3⟩ := bcell hb3
  have hz3 := hb3.size
  have hs3_0 : w1.heap.size < w3.heap.size := by omega
  have hw3 : w.heap.size ≤ w3.heap.size := by omega
  have hB3 := hid (hB2.out.trans (hb3.mono (by omega)))
  clear hb3
  go_wp2_with fail
  refine (toStamp_any _ _ _).mono ?_
  rintro e w4 ⟨rfl, hb4⟩
  obtain ⟨hc4, hf4⟩ := bcell hb4
  have hz4 := hb4.size
  have hs4_0 : w1.heap.size < w4.heap.size := by omega
  have hw4 : w.heap.size ≤ w4.heap.size := by omega
  have hB4 := hid (hB3.out.trans (hb4.mono (by omega)))
  clear hb4
  go_wp2_with fail
  refine (StampValid_impl _ _ _).mono ?_
  rintro e w5 ⟨rfl, hb5⟩
  obtain ⟨hc5, hf5⟩ := bcell hb5
  have hz5 := hb5.size
  have hs5_0 : w1.heap.size < w5.heap.size := by omega
  have hw5 : w.heap.size ≤ w5.heap.size := by omega
  have hB5 := hid (hB4.out.trans (hb5.mono (by omega)))
  clear hb5
  have hne : (stB a b != stB a b) = false := by simp
  go_wp2
  go_ret
  exact ⟨rfl, hB5.out⟩

set_option maxHeartbeats 2000000 in
theorem exHybridValid (a b : Int) (w : World) :
    Calls Try.prog 6 #[two a b] w fun e w' => e = .returned (.bool true) ∧ Below w.heap.size w w' := by
  obtain ⟨w1, hw⟩ : ∃ w1, w = w1 := ⟨_, rfl⟩
  have hw1 : w.heap.size ≤ w1.heap.size := by rw [hw]; exact Nat.le_refl _
  have hB1 := hid (show Below w.heap.size w w1 by rw [hw]; exact Below.refl _ _)
  rw [show Calls Try.prog 6 #[two a b] w = Calls Try.prog 6 #[two a b] w1 by rw [hw]]
  clear hw
  go_enter Try.func6, Try.ntmps6
  go_wp2_with fail
  refine (toHybrid_any _ _ _).mono ?_
  rintro e w2 ⟨rfl, hb2⟩
  obtain ⟨hc2, hf2⟩ := bcell hb2
  have hz2 := hb2.size
  (try simp at hz2)
  have hs2_0 : w1.heap.size < w2.heap.size := by omega
  have hw2 : w.heap.size ≤ w2.heap.size := by omega
  have hB2 := hid ((hB1.out.alloc (by omega) _).trans (hb2.mono (by (try simp); omega)))
  clear hb2
  go_wp2_with fail
  refine (HybridValid_spec _ _ _).mono ?_
  rintro e w3 ⟨rfl, hb3⟩
  obtain ⟨hc3, hf3⟩ := bcell hb3
  have hz3 := hb3.size
  have hs3_0 : w1.heap.size < w3.heap.size := by omega
  have hw3 : w.heap.size ≤ w3.heap.size := by omega
  have hB3 := hid (hB2.out.trans (hb3.mono (by omega)))
  clear hb3
  go_wp2_with fail
  refine (toHybrid_any _ _ _).mono ?_
  rintro e w4 ⟨rfl, hb4⟩
  obtain ⟨hc4, hf4⟩ := bcell hb4
  have hz4 := hb4.size
  have hs4_0 : w1.heap.size < w4.heap.size := by omega
  have hw4 : w.heap.size ≤ w4.heap.size := by omega
  have hB4 := hid (hB3.out.trans (hb4.mono (by omega)))
  clear hb4
  go_wp2_with fail
  refine (HybridValid_impl _ _ _).mono ?_
  rintro e w5 ⟨rfl, hb5⟩
  obtain ⟨hc5, hf5⟩ := bcell hb5
  have hz5 := hb5.size
  have hs5_0 : w1.heap.size < w5.heap.size := by omega
  have hw5 : w.heap.size ≤ w5.heap.size := by omega
  have hB5 := hid (hB4.out.trans (hb5.mono (by omega)))
  clear hb5
  have hne : (hyB a b != hyB a b) = false := by simp
  go_wp2
  go_ret
  exact ⟨rfl, hB5.out⟩

set_option maxHeartbeats 2000000 in
theorem exHybridTick (a b p : Int) (w : World) :
    Calls Try.prog 8 #[two a b, .int .i64 p] w fun e w' => e = .returned (.bool true) ∧ Below w.heap.size w w' := by
  obtain ⟨w1, hw⟩ : ∃ w1, w = w1 := ⟨_, rfl⟩
  have hw1 : w.heap.size ≤ w1.heap.size := by rw [hw]; exact Nat.le_refl _
  have hB1 := hid (show Below w.heap.size w w1 by rw [hw]; exact Below.refl _ _)
  rw [show Calls Try.prog 8 #[two a b, .int .i64 p] w = Calls Try.prog 8 #[two a b, .int .i64 p] w1 by rw [hw]]
  clear hw
  go_enter Try.func8, Try.ntmps8
  go_wp2_with fail
  refine (toHybrid_any _ _ _).mono ?_
  rintro e w2 ⟨rfl, hb2⟩
  obtain ⟨hc2, hf2⟩ := bcell hb2
  have hz2 := hb2.size
  (try simp at hz2)
  have hs2_0 : w1.heap.size < w2.heap.size := by omega
  have hw2 : w.heap.size ≤ w2.heap.size := by omega
  have hB2 := hid ((hB1.out.alloc (by omega) _).trans (hb2.mono (by (try simp); omega)))
  clear hb2
  go_wp2_with fail
  refine (HybridTick_spec _ _ _ _).mono ?_
  rintro e w3 ⟨rfl, hb3⟩
  obtain ⟨hc3, hf3⟩ := bcell hb3
  have hz3 := hb3.size
  have hs3_0 : w1.heap.size < w3.heap.size := by omega
  have hw3 : w.heap.size ≤ w3.heap.size := by omega
  have hB3 := hid (hB2.out.trans (hb3.mono (by omega)))
  clear hb3
  go_wp2_with fail
  refine (toHybrid_any _ _ _).mono ?_
  rintro e w4 ⟨rfl, hb4⟩
  obtain ⟨hc4, hf4⟩ := bcell hb4
  have hz4 := hb4.size
  (try simp at hz4)
  have hs4_0 : w1.heap.size < w4.heap.size := by omega
  have hs4_1 : w3.heap.size < w4.heap.size := by omega
  have hw4 : w.heap.size ≤ w4.heap.size := by omega
  have hB4 := hid ((hB3.out.alloc (by omega) _).trans (hb4.mono (by (try simp); omega)))
  clear hb4
  go_wp2_with fail
  refine (HybridTick_impl _ _ _ _).mono ?_
  rintro e w5 ⟨rfl, hb5⟩
  obtain ⟨hc5, hf5⟩ := bcell hb5
  have hz5 := hb5.size
  have hs5_0 : w1.heap.size < w5.heap.size := by omega
  have hs5_1 : w3.heap.size < w5.heap.size := by omega
  have hw5 : w.heap.size ≤ w5.heap.size := by omega
  have hB5 := hid (hB4.out.trans (hb5.mono (by omega)))
  clear hb5
  go_wp2_with fail
  refine (eqHybrid_same _ _ _).mono ?_
  rintro e w6 ⟨rfl, hb6⟩
  obtain ⟨hc6, hf6⟩ := bcell hb6
  have hz6 := hb6.size
  (try simp at hz6)
  have hs6_0 : w1.heap.size < w6.heap.size := by omega
  have hs6_1 : w3.heap.size < w6.heap.size := by omega
  have hs6_2 : w5.heap.size < w6.heap.size := by omega
  have hw6 : w.heap.size ≤ w6.heap.size := by omega
  have hB6 := hid ((hB5.out.alloc (by omega) _).trans (hb6.mono (by (try simp); omega)))
  clear hb6
  have hne : (tickOk a b p != tickOk a b p) = false := by simp
  go_wp2
  go_ret
  exact ⟨rfl, hB6.out⟩
end Go.Proofs.Ytmbmdhojefdihaa
