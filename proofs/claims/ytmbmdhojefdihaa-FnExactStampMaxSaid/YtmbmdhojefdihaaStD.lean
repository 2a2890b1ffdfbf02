/-
  Contracts of l2Hybrid, HybridTick and HybridMerge, of the model and of the program. No condition.
-/
import Derived.Test.YtmbmdhojefdihaaStC
namespace Go.Proofs.Ytmbmdhojefdihaa
open Go.RowKit

theorem ret_two {a b c d : Int} {p q : Bool} (h1 : a = c) (h2 : b = d) (h3 : p = q) : Ending.returned (.tuple #[two a b, .bool p]) = .returned (.tuple #[two c d, .bool q]) := by rw [h1, h2, h3]

set_option maxHeartbeats 1000000 in
theorem l2Hybrid_yes (x c : Int) (w : World) (h : hyB x c = true) :
    Calls Try.prog 44 #[.int .i64 x, .int .i64 c] w fun e w' => e = .returned (.tuple #[two x c, .bool true]) ∧ Below w.heap.size w w' := by
  have h' := hid h
  clear h
  go_enter Try.func44, Try.ntmps44
  go_wp2_with fail
  refine (HybridValid_spec _ _ _).mono ?_
  rw [h'.out]
  rintro e w1 ⟨rfl, hb1⟩
  obtain ⟨hc1, hf1⟩ := bcell hb1
  have hb1' := hid hb1
  have hs1 : w.heap.size + 1 < w1.heap.size := by have := hb1.size; simp at this; omega
  have hs1a : w.heap.size < w1.heap.size := by omega
  have k0 : w1.cell? ⟨w.heap.size, 0, none⟩ = some (.int .i64 0) := (hc1 _ _ (by simp; omega)).trans (by simp [go_sem])
  have k1 : w1.cell? ⟨w.heap.size, 1, none⟩ = some (.int .i64 0) := (hc1 _ _ (by simp; omega)).trans (by simp [go_sem])
  have K := hid (And.intro k0 k1)
  clear hb1 k0 k1
  go_wp2
  exact bodyPost_ret (v := .tuple #[two x c, .bool true]) (by simp [results, Try.results44, go_sem, K.out.1, K.out.2]) rfl
    ⟨rfl, (((below2 w _ _).trans (hb1'.out.mono (by simp; omega))).setCell (Nat.le_refl _) _).setCell (Nat.le_refl _) _⟩

set_option maxHeartbeats 1000000 in
theorem l2Hybrid_no (x c : Int) (w : World) (h : hyB x c = false) :
    Calls Try.prog 44 #[.int .i64 x, .int .i64 c] w fun e w' => e = .returned (.tuple #[two 0 0, .bool false]) ∧ Below w.heap.size w w' := by
  have h' := hid h
  clear h
  go_enter Try.func44, Try.ntmps44
  go_wp2_with fail
  refine (HybridValid_spec _ _ _).mono ?_
  rw [h'.out]
  rintro e w1 ⟨rfl, hb1⟩
  obtain ⟨hc1, hf1⟩ := bcell hb1
  have hb1' := hid hb1
  have hs1 : w.heap.size + 1 < w1.heap.size := by have := hb1.size; simp at this; omega
  have hs1a : w.heap.size < w1.heap.size := by omega
  have k0 : w1.cell? ⟨w.heap.size, 0, none⟩ = some (.int .i64 0) := (hc1 _ _ (by simp; omega)).trans (by simp [go_sem])
  have k1 : w1.cell? ⟨w.heap.size, 1, none⟩ = some (.int .i64 0) := (hc1 _ _ (by simp; omega)).trans (by simp [go_sem])
  have K := hid (And.intro k0 k1)
  clear hb1 k0 k1
  go_wp2
  exact bodyPost_ret (v := .tuple #[two 0 0, .bool false]) (by simp [results, Try.results44, go_sem, K.out.1, K.out.2]) rfl
    ⟨rfl, (((below2 w _ _).trans (hb1'.out.mono (by simp; omega))).setCell (Nat.le_refl _) _).setCell (Nat.le_refl _) _⟩

set_option maxHeartbeats 1000000 in
theorem HybridTick_spec1 (x c p : Int) (w : World) (h : hyB x c = false) :
    Calls Try.prog 26 #[two x c, .int .i64 p] w (fun e w' => e = .returned (.tuple #[two (tickW x c p) (tickC x c p), .bool (tickOk x c p)]) ∧ Below w.heap.size w w') := by
  have ho : tickOk x c p = false := tickOk_false.2 (.inl h)
  have R := hid (And.intro (tickW_no ho) (And.intro (tickC_no ho) ho))
  have h' := hid h
  clear h ho
  go_enter Try.func26, Try.ntmps26
  go_wp2_with fail
  refine (HybridValid_spec _ _ _).mono ?_
  rw [h'.out]
  rintro e w1 ⟨rfl, hb1⟩
  obtain ⟨hc1, hf1⟩ := bcell hb1
  have hb1' := hid hb1
  have hs1 : w.heap.size + 1 < w1.heap.size := by have := hb1.size; simp at this; omega
  have hs1a : w.heap.size < w1.heap.size := by omega
  have k0 : w1.cell? ⟨w.heap.size + 1, 0, none⟩ = some (.int .i64 0) := (hc1 _ _ (by simp)).trans (by simp [go_sem])
  have k1 : w1.cell? ⟨w.heap.size + 1, 1, none⟩ = some (.int .i64 0) := (hc1 _ _ (by simp)).trans (by simp [go_sem])
  have K := hid (And.intro k0 k1)
  clear hb1 k0 k1
  go_wp2
  refine bodyPost_ret (v := .tuple #[two (0) (0), .bool false]) (by simp [results, Try.results26, go_sem, K.out.1, K.out.2]) rfl ⟨?_, ((((below2 w _ _).trans (hb1'.out.mono (by simp; omega)))).setCell (Nat.le_add_right _ _) _).setCell (Nat.le_add_right _ _) _⟩
  rw [R.out.1, R.out.2.1, R.out.2.2]

set_option maxHeartbeats 1000000 in
theorem HybridTick_spec2 (x c p : Int) (w : World) (h : hyB x c = true) (hp : inB p 0 999 = false) :
    Calls Try.prog 26 #[two x c, .int .i64 p] w (fun e w' => e = .returned (.tuple #[two (tickW x c p) (tickC x c p), .bool (tickOk x c p)]) ∧ Below w.heap.size w w') := by
  have ho : tickOk x c p = false := tickOk_false.2 (by have := inB_false.1 hp; omega)
  have R := hid (And.intro (tickW_no ho) (And.intro (tickC_no ho) ho))
  have h' := hid h
  have hp' := hid hp
  clear h ho hp
  go_enter Try.func26, Try.ntmps26
  go_wp2_with fail
  refine (HybridValid_spec _ _ _).mono ?_
  rw [h'.out]
  rintro e w1 ⟨rfl, hb1⟩
  obtain ⟨hc1, hf1⟩ := bcell hb1
  have hb1' := hid hb1
  have hs1 : w.heap.size + 1 < w1.heap.size := by have := hb1.size; simp at this; omega
  have hs1a : w.heap.size < w1.heap.size := by omega
  have k0 : w1.cell? ⟨w.heap.size + 1, 0, none⟩ = some (.int .i64 0) := (hc1 _ _ (by simp)).trans (by simp [go_sem])
  have k1 : w1.cell? ⟨w.heap.size + 1, 1, none⟩ = some (.int .i64 0) := (hc1 _ _ (by simp)).trans (by simp [go_sem])
  have K := hid (And.intro k0 k1)
  clear hb1 k0 k1
  go_wp2_with (go_at_call 40; (with_reducible refine (l2Time_any _ _).mono ?_); rw [hp'.out]; rintro e w' ⟨rfl, rfl⟩)
  refine bodyPost_ret (v := .tuple #[two (0) (0), .bool false]) (by simp [results, Try.results26, go_sem, K.out.1, K.out.2]) rfl ⟨?_, ((((below2 w _ _).trans (hb1'.out.mono (by simp; omega)))).setCell (Nat.le_add_right _ _) _).setCell (Nat.le_add_right _ _) _⟩
  rw [R.out.1, R.out.2.1, R.out.2.2]

set_option maxHeartbeats 1000000 in
theorem HybridTick_spec3 (x c p : Int) (w : World) (h : hyB x c = true) (hp : inB p 0 999 = true) (hx : x < p) :
    Calls Try.prog 26 #[two x c, .int .i64 p] w (fun e w' => e = .returned (.tuple #[two (tickW x c p) (tickC x c p), .bool (tickOk x c p)]) ∧ Below w.heap.size w w') := by
  have ho : tickOk x c p = true := tickOk_true.2 (by have := inB_true.1 hp; exact ⟨h, by omega, by omega, .inl hx⟩)
  have R := hid (And.intro (tickW_hi ho hx) (And.intro (tickC_hi ho hx) ho))
  have hv : Hid (hyB p 0 = true) := hid (hyB_true.2 (by have := inB_true.1 hp; omega))
  have h' := hid h
  have hp' := hid hp
  clear h ho hp
  go_enter Try.func26, Try.ntmps26
  go_wp2_with fail
  refine (HybridValid_spec _ _ _).mono ?_
  rw [h'.out]
  rintro e w1 ⟨rfl, hb1⟩
  obtain ⟨hc1, hf1⟩ := bcell hb1
  have hb1' := hid hb1
  have hs1 : w.heap.size + 1 < w1.heap.size := by have := hb1.size; simp at this; omega
  have hs1a : w.heap.size < w1.heap.size := by omega
  have k0 : w1.cell? ⟨w.heap.size + 1, 0, none⟩ = some (.int .i64 0) := (hc1 _ _ (by simp)).trans (by simp [go_sem])
  have k1 : w1.cell? ⟨w.heap.size + 1, 1, none⟩ = some (.int .i64 0) := (hc1 _ _ (by simp)).trans (by simp [go_sem])
  have K := hid (And.intro k0 k1)
  clear hb1 k0 k1
  go_wp2_with fail
  go_at_call 40; (with_reducible refine (l2Time_any _ _).mono ?_); rw [hp'.out]; rintro e w' ⟨rfl, rfl⟩
  go_wp2_with fail
  refine (l2Hybrid_yes _ _ _ hv.out).mono ?_
  rintro e w2 ⟨rfl, hb2⟩
  obtain ⟨hc2, hf2⟩ := bcell hb2
  have k0 : w2.cell? ⟨w.heap.size + 1, 0, none⟩ = some (.int .i64 0) := (hc2 _ _ (by omega)).trans K.out.1
  have k1 : w2.cell? ⟨w.heap.size + 1, 1, none⟩ = some (.int .i64 0) := (hc2 _ _ (by omega)).trans K.out.2
  have K2 := hid (And.intro k0 k1)
  have hb2' := hid hb2
  clear hb2 k0 k1
  go_wp2
  refine bodyPost_ret (v := .tuple #[two (p) (0), .bool true]) (by simp [results, Try.results26, go_sem, K2.out.1, K2.out.2]) rfl ⟨?_, ((((below2 w _ _).trans (hb1'.out.mono (by simp; omega))).trans (hb2'.out.mono (by omega))).setCell (Nat.le_add_right _ _) _).setCell (Nat.le_add_right _ _) _⟩
  rw [R.out.1, R.out.2.1, R.out.2.2]

set_option maxHeartbeats 1000000 in
theorem HybridTick_spec4 (x c p : Int) (w : World) (h : hyB x c = true) (hp : inB p 0 999 = true) (hx : p ≤ x) (hc : c < 99) :
    Calls Try.prog 26 #[two x c, .int .i64 p] w (fun e w' => e = .returned (.tuple #[two (tickW x c p) (tickC x c p), .bool (tickOk x c p)]) ∧ Below w.heap.size w w') := by
  have ho : tickOk x c p = true := tickOk_true.2 (by have := inB_true.1 hp; exact ⟨h, by omega, by omega, .inr hc⟩)
  have R := hid (And.intro (tickW_lo ho hx) (And.intro (tickC_lo ho hx) ho))
  have hb := hyB_true.1 h
  have hv : Hid (hyB x (c + 1) = true) := hid (hyB_true.2 (by omega))
  have h' := hid h
  have hp' := hid hp
  have hc0 : 0 ≤ c := by omega
  have hne : (c == 99) = false := by simp; omega
  clear h ho hp hb
  go_enter Try.func26, Try.ntmps26
  go_wp2_with fail
  refine (HybridValid_spec _ _ _).mono ?_
  rw [h'.out]
  rintro e w1 ⟨rfl, hb1⟩
  obtain ⟨hc1, hf1⟩ := bcell hb1
  have hb1' := hid hb1
  have hs1 : w.heap.size + 1 < w1.heap.size := by have := hb1.size; simp at this; omega
  have hs1a : w.heap.size < w1.heap.size := by omega
  have k0 : w1.cell? ⟨w.heap.size + 1, 0, none⟩ = some (.int .i64 0) := (hc1 _ _ (by simp)).trans (by simp [go_sem])
  have k1 : w1.cell? ⟨w.heap.size + 1, 1, none⟩ = some (.int .i64 0) := (hc1 _ _ (by simp)).trans (by simp [go_sem])
  have K := hid (And.intro k0 k1)
  clear hb1 k0 k1
  go_wp2_with fail
  go_at_call 40; (with_reducible refine (l2Time_any _ _).mono ?_); rw [hp'.out]; rintro e w' ⟨rfl, rfl⟩
  go_wp2_with fail
  refine (l2Hybrid_yes _ _ _ hv.out).mono ?_
  rintro e w2 ⟨rfl, hb2⟩
  obtain ⟨hc2, hf2⟩ := bcell hb2
  have k0 : w2.cell? ⟨w.heap.size + 1, 0, none⟩ = some (.int .i64 0) := (hc2 _ _ (by omega)).trans K.out.1
  have k1 : w2.cell? ⟨w.heap.size + 1, 1, none⟩ = some (.int .i64 0) := (hc2 _ _ (by omega)).trans K.out.2
  have K2 := hid (And.intro k0 k1)
  have hb2' := hid hb2
  clear hb2 k0 k1
  go_wp2
  refine bodyPost_ret (v := .tuple #[two (x) (c + 1), .bool true]) (by simp [results, Try.results26, go_sem, K2.out.1, K2.out.2]) rfl ⟨?_, ((((below2 w _ _).trans (hb1'.out.mono (by simp; omega))).trans (hb2'.out.mono (by omega))).setCell (Nat.le_add_right _ _) _).setCell (Nat.le_add_right _ _) _⟩
  rw [R.out.1, R.out.2.1, R.out.2.2]

set_option maxHeartbeats 1000000 in
theorem HybridTick_spec5 (x c p : Int) (w : World) (h : hyB x c = true) (hp : inB p 0 999 = true) (hx : p ≤ x) (hc : 99 ≤ c) :
    Calls Try.prog 26 #[two x c, .int .i64 p] w (fun e w' => e = .returned (.tuple #[two (tickW x c p) (tickC x c p), .bool (tickOk x c p)]) ∧ Below w.heap.size w w') := by
  have ho : tickOk x c p = false := tickOk_false.2 (by omega)
  have R := hid (And.intro (tickW_no ho) (And.intro (tickC_no ho) ho))
  have hb := hyB_true.1 h
  obtain rfl : c = 99 := by omega
  have hv : Hid (hyB x (99 + 1) = false) := hid (hyB_false.2 (by omega))
  have h' := hid h
  have hp' := hid hp
  clear h ho hp hb hc
  go_enter Try.func26, Try.ntmps26
  go_wp2_with fail
  refine (HybridValid_spec _ _ _).mono ?_
  rw [h'.out]
  rintro e w1 ⟨rfl, hb1⟩
  obtain ⟨hc1, hf1⟩ := bcell hb1
  have hb1' := hid hb1
  have hs1 : w.heap.size + 1 < w1.heap.size := by have := hb1.size; simp at this; omega
  have hs1a : w.heap.size < w1.heap.size := by omega
  have k0 : w1.cell? ⟨w.heap.size + 1, 0, none⟩ = some (.int .i64 0) := (hc1 _ _ (by simp)).trans (by simp [go_sem])
  have k1 : w1.cell? ⟨w.heap.size + 1, 1, none⟩ = some (.int .i64 0) := (hc1 _ _ (by simp)).trans (by simp [go_sem])
  have K := hid (And.intro k0 k1)
  clear hb1 k0 k1
  go_wp2_with fail
  go_at_call 40; (with_reducible refine (l2Time_any _ _).mono ?_); rw [hp'.out]; rintro e w' ⟨rfl, rfl⟩
  go_wp2_with fail
  refine (l2Hybrid_no _ _ _ hv.out).mono ?_
  rintro e w2 ⟨rfl, hb2⟩
  obtain ⟨hc2, hf2⟩ := bcell hb2
  have k0 : w2.cell? ⟨w.heap.size + 1, 0, none⟩ = some (.int .i64 0) := (hc2 _ _ (by omega)).trans K.out.1
  have k1 : w2.cell? ⟨w.heap.size + 1, 1, none⟩ = some (.int .i64 0) := (hc2 _ _ (by omega)).trans K.out.2
  have K2 := hid (And.intro k0 k1)
  have hb2' := hid hb2
  clear hb2 k0 k1
  go_wp2
  refine bodyPost_ret (v := .tuple #[two (0) (0), .bool false]) (by simp [results, Try.results26, go_sem, K2.out.1, K2.out.2]) rfl ⟨?_, ((((below2 w _ _).trans (hb1'.out.mono (by simp; omega))).trans (hb2'.out.mono (by omega))).setCell (Nat.le_add_right _ _) _).setCell (Nat.le_add_right _ _) _⟩
  rw [R.out.1, R.out.2.1, R.out.2.2]

theorem HybridTick_spec (x c p : Int) (w : World) :
    Calls Try.prog 26 #[two x c, .int .i64 p] w (fun e w' => e = .returned (.tuple #[two (tickW x c p) (tickC x c p), .bool (tickOk x c p)]) ∧ Below w.heap.size w w') := by
  cases h : hyB x c with
  | false => exact HybridTick_spec1 x c p w h
  | true =>
    cases hp : inB p 0 999 with
    | false => exact HybridTick_spec2 x c p w h hp
    | true =>
      by_cases hx : x < p
      · exact HybridTick_spec3 x c p w h hp hx
      · by_cases hc : c < 99
        · exact HybridTick_spec4 x c p w h hp (by omega) hc
        · exact HybridTick_spec5 x c p w h hp (by omega) (by omega)

set_option maxHeartbeats 1000000 in
theorem HybridTick_impl1 (x c p : Int) (w : World) (h : hyB x c = false) :
    Calls Try.prog 27 #[two x c, .int .i64 p] w (fun e w' => e = .returned (.tuple #[two (tickW x c p) (tickC x c p), .bool (tickOk x c p)]) ∧ Below w.heap.size w w') := by
  have ho : tickOk x c p = false := tickOk_false.2 (.inl h)
  have R := hid (And.intro (tickW_no ho) (And.intro (tickC_no ho) ho))
  have h' := hid h
  clear h ho
  go_enter Try.func27, Try.ntmps27
  go_wp2_with fail
  refine (HybridValid_impl _ _ _).mono ?_
  rw [h'.out]
  rintro e w1 ⟨rfl, hb1⟩
  obtain ⟨hc1, hf1⟩ := bcell hb1
  have hb1' := hid hb1
  have hs1 : w.heap.size + 1 < w1.heap.size := by have := hb1.size; simp at this; omega
  have hs1a : w.heap.size < w1.heap.size := by omega
  have k0 : w1.cell? ⟨w.heap.size + 1, 0, none⟩ = some (.int .i64 0) := (hc1 _ _ (by simp)).trans (by simp [go_sem])
  have k1 : w1.cell? ⟨w.heap.size + 1, 1, none⟩ = some (.int .i64 0) := (hc1 _ _ (by simp)).trans (by simp [go_sem])
  have K := hid (And.intro k0 k1)
  clear hb1 k0 k1
  go_wp2
  refine bodyPost_ret (v := .tuple #[two (0) (0), .bool false]) (by simp [results, Try.results27, go_sem, K.out.1, K.out.2]) rfl ⟨?_, ((((below2 w _ _).trans (hb1'.out.mono (by simp; omega)))).setCell (Nat.le_add_right _ _) _).setCell (Nat.le_add_right _ _) _⟩
  rw [R.out.1, R.out.2.1, R.out.2.2]

set_option maxHeartbeats 1000000 in
theorem HybridTick_impl2 (x c p : Int) (w : World) (h : hyB x c = true) (hp : inB p 0 999 = false) :
    Calls Try.prog 27 #[two x c, .int .i64 p] w (fun e w' => e = .returned (.tuple #[two (tickW x c p) (tickC x c p), .bool (tickOk x c p)]) ∧ Below w.heap.size w w') := by
  have ho : tickOk x c p = false := tickOk_false.2 (by have := inB_false.1 hp; omega)
  have R := hid (And.intro (tickW_no ho) (And.intro (tickC_no ho) ho))
  have h' := hid h
  have hp' := hid hp
  clear h ho hp
  go_enter Try.func27, Try.ntmps27
  go_wp2_with fail
  refine (HybridValid_impl _ _ _).mono ?_
  rw [h'.out]
  rintro e w1 ⟨rfl, hb1⟩
  obtain ⟨hc1, hf1⟩ := bcell hb1
  have hb1' := hid hb1
  have hs1 : w.heap.size + 1 < w1.heap.size := by have := hb1.size; simp at this; omega
  have hs1a : w.heap.size < w1.heap.size := by omega
  have k0 : w1.cell? ⟨w.heap.size + 1, 0, none⟩ = some (.int .i64 0) := (hc1 _ _ (by simp)).trans (by simp [go_sem])
  have k1 : w1.cell? ⟨w.heap.size + 1, 1, none⟩ = some (.int .i64 0) := (hc1 _ _ (by simp)).trans (by simp [go_sem])
  have K := hid (And.intro k0 k1)
  clear hb1 k0 k1
  go_wp2_with (go_at_call 41; (with_reducible refine (physicalExists_any _ _).mono ?_); rw [hp'.out]; rintro e w' ⟨rfl, rfl⟩)
  refine bodyPost_ret (v := .tuple #[two (0) (0), .bool false]) (by simp [results, Try.results27, go_sem, K.out.1, K.out.2]) rfl ⟨?_, ((((below2 w _ _).trans (hb1'.out.mono (by simp; omega)))).setCell (Nat.le_add_right _ _) _).setCell (Nat.le_add_right _ _) _⟩
  rw [R.out.1, R.out.2.1, R.out.2.2]

set_option maxHeartbeats 1000000 in
theorem HybridTick_impl3 (x c p : Int) (w : World) (h : hyB x c = true) (hp : inB p 0 999 = true) (hx : x < p) :
    Calls Try.prog 27 #[two x c, .int .i64 p] w (fun e w' => e = .returned (.tuple #[two (tickW x c p) (tickC x c p), .bool (tickOk x c p)]) ∧ Below w.heap.size w w') := by
  have ho : tickOk x c p = true := tickOk_true.2 (by have := inB_true.1 hp; exact ⟨h, by omega, by omega, .inl hx⟩)
  have R := hid (And.intro (tickW_hi ho hx) (And.intro (tickC_hi ho hx) ho))
  have hv : Hid (hyB p 0 = true) := hid (hyB_true.2 (by have := inB_true.1 hp; omega))
  have h' := hid h
  have hp' := hid hp
  clear h ho hp
  go_enter Try.func27, Try.ntmps27
  go_wp2_with fail
  refine (HybridValid_impl _ _ _).mono ?_
  rw [h'.out]
  rintro e w1 ⟨rfl, hb1⟩
  obtain ⟨hc1, hf1⟩ := bcell hb1
  have hb1' := hid hb1
  have hs1 : w.heap.size + 1 < w1.heap.size := by have := hb1.size; simp at this; omega
  have hs1a : w.heap.size < w1.heap.size := by omega
  have k0 : w1.cell? ⟨w.heap.size + 1, 0, none⟩ = some (.int .i64 0) := (hc1 _ _ (by simp)).trans (by simp [go_sem])
  have k1 : w1.cell? ⟨w.heap.size + 1, 1, none⟩ = some (.int .i64 0) := (hc1 _ _ (by simp)).trans (by simp [go_sem])
  have K := hid (And.intro k0 k1)
  clear hb1 k0 k1
  go_wp2_with (go_at_call 41; (with_reducible refine (physicalExists_any _ _).mono ?_); rw [hp'.out]; rintro e w' ⟨rfl, rfl⟩)
  refine bodyPost_ret (v := .tuple #[two (p) (0), .bool true]) (by simp [results, Try.results27, go_sem, K.out.1, K.out.2]) rfl ⟨?_, ((((below2 w _ _).trans (hb1'.out.mono (by simp; omega)))).setCell (Nat.le_add_right _ _) _).setCell (Nat.le_add_right _ _) _⟩
  rw [R.out.1, R.out.2.1, R.out.2.2]

set_option maxHeartbeats 1000000 in
theorem HybridTick_impl4 (x c p : Int) (w : World) (h : hyB x c = true) (hp : inB p 0 999 = true) (hx : p ≤ x) (hc : c < 99) :
    Calls Try.prog 27 #[two x c, .int .i64 p] w (fun e w' => e = .returned (.tuple #[two (tickW x c p) (tickC x c p), .bool (tickOk x c p)]) ∧ Below w.heap.size w w') := by
  have ho : tickOk x c p = true := tickOk_true.2 (by have := inB_true.1 hp; exact ⟨h, by omega, by omega, .inr hc⟩)
  have R := hid (And.intro (tickW_lo ho hx) (And.intro (tickC_lo ho hx) ho))
  have hb := hyB_true.1 h
  have hv : Hid (hyB x (c + 1) = true) := hid (hyB_true.2 (by omega))
  have h' := hid h
  have hp' := hid hp
  have hc0 : 0 ≤ c := by omega
  have hne : (c == 99) = false := by simp; omega
  clear h ho hp hb
  go_enter Try.func27, Try.ntmps27
  go_wp2_with fail
  refine (HybridValid_impl _ _ _).mono ?_
  rw [h'.out]
  rintro e w1 ⟨rfl, hb1⟩
  obtain ⟨hc1, hf1⟩ := bcell hb1
  have hb1' := hid hb1
  have hs1 : w.heap.size + 1 < w1.heap.size := by have := hb1.size; simp at this; omega
  have hs1a : w.heap.size < w1.heap.size := by omega
  have k0 : w1.cell? ⟨w.heap.size + 1, 0, none⟩ = some (.int .i64 0) := (hc1 _ _ (by simp)).trans (by simp [go_sem])
  have k1 : w1.cell? ⟨w.heap.size + 1, 1, none⟩ = some (.int .i64 0) := (hc1 _ _ (by simp)).trans (by simp [go_sem])
  have K := hid (And.intro k0 k1)
  clear hb1 k0 k1
  go_wp2_with (go_at_call 41; (with_reducible refine (physicalExists_any _ _).mono ?_); rw [hp'.out]; rintro e w' ⟨rfl, rfl⟩)
  refine bodyPost_ret (v := .tuple #[two (x) (c + 1), .bool true]) (by simp [results, Try.results27, go_sem, K.out.1, K.out.2]) rfl ⟨?_, ((((below2 w _ _).trans (hb1'.out.mono (by simp; omega)))).setCell (Nat.le_add_right _ _) _).setCell (Nat.le_add_right _ _) _⟩
  rw [R.out.1, R.out.2.1, R.out.2.2]

set_option maxHeartbeats 1000000 in
theorem HybridTick_impl5 (x c p : Int) (w : World) (h : hyB x c = true) (hp : inB p 0 999 = true) (hx : p ≤ x) (hc : 99 ≤ c) :
    Calls Try.prog 27 #[two x c, .int .i64 p] w (fun e w' => e = .returned (.tuple #[two (tickW x c p) (tickC x c p), .bool (tickOk x c p)]) ∧ Below w.heap.size w w') := by
  have ho : tickOk x c p = false := tickOk_false.2 (by omega)
  have R := hid (And.intro (tickW_no ho) (And.intro (tickC_no ho) ho))
  have hb := hyB_true.1 h
  obtain rfl : c = 99 := by omega
  have hv : Hid (hyB x (99 + 1) = false) := hid (hyB_false.2 (by omega))
  have h' := hid h
  have hp' := hid hp
  clear h ho hp hb hc
  go_enter Try.func27, Try.ntmps27
  go_wp2_with fail
  refine (HybridValid_impl _ _ _).mono ?_
  rw [h'.out]
  rintro e w1 ⟨rfl, hb1⟩
  obtain ⟨hc1, hf1⟩ := bcell hb1
  have hb1' := hid hb1
  have hs1 : w.heap.size + 1 < w1.heap.size := by have := hb1.size; simp at this; omega
  have hs1a : w.heap.size < w1.heap.size := by omega
  have k0 : w1.cell? ⟨w.heap.size + 1, 0, none⟩ = some (.int .i64 0) := (hc1 _ _ (by simp)).trans (by simp [go_sem])
  have k1 : w1.cell? ⟨w.heap.size + 1, 1, none⟩ = some (.int .i64 0) := (hc1 _ _ (by simp)).trans (by simp [go_sem])
  have K := hid (And.intro k0 k1)
  clear hb1 k0 k1
  go_wp2_with (go_at_call 41; (with_reducible refine (physicalExists_any _ _).mono ?_); rw [hp'.out]; rintro e w' ⟨rfl, rfl⟩)
  refine bodyPost_ret (v := .tuple #[two (0) (0), .bool false]) (by simp [results, Try.results27, go_sem, K.out.1, K.out.2]) rfl ⟨?_, ((((below2 w _ _).trans (hb1'.out.mono (by simp; omega)))).setCell (Nat.le_add_right _ _) _).setCell (Nat.le_add_right _ _) _⟩
  rw [R.out.1, R.out.2.1, R.out.2.2]

theorem HybridTick_impl (x c p : Int) (w : World) :
    Calls Try.prog 27 #[two x c, .int .i64 p] w (fun e w' => e = .returned (.tuple #[two (tickW x c p) (tickC x c p), .bool (tickOk x c p)]) ∧ Below w.heap.size w w') := by
  cases h : hyB x c with
  | false => exact HybridTick_impl1 x c p w h
  | true =>
    cases hp : inB p 0 999 with
    | false => exact HybridTick_impl2 x c p w h hp
    | true =>
      by_cases hx : x < p
      · exact HybridTick_impl3 x c p w h hp hx
      · by_cases hc : c < 99
        · exact HybridTick_impl4 x c p w h hp (by omega) hc
        · exact HybridTick_impl5 x c p w h hp (by omega) (by omega)
end Go.Proofs.Ytmbmdhojefdihaa
