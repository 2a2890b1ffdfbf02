/-
  Contracts of StampLess and HybridLess, of the model and of the program; the program's order of function values. No condition.
-/
import Derived.Test.YtmbmdhojefdihaaStB
namespace Go.Proofs.Ytmbmdhojefdihaa
open Go.RowKit


set_option maxHeartbeats 1000000 in
theorem StampLess_spec (a b c d : Int) (w : World) :
    Calls Try.prog 13 #[two a b, two c d] w fun e w' => e = .returned (.bool (stL a b c d)) ∧ Below w.heap.size w w' := by
  have hB0 := hid (below2 w (.cells #[.int .i64 a, .int .i64 b] 25) (.cells #[.int .i64 c, .int .i64 d] 25))
  cases h1 : stB a b with
  | false =>
    have hf := hid (show stL a b c d = false from stL_no1 h1)
    have h1' := hid h1
    clear h1
    go_enter Try.func13, Try.ntmps13
    go_wp2_with fail
    refine (StampValid_spec _ _ _).mono ?_
    rw [h1'.out]
    rintro e w1 ⟨rfl, hb1⟩
    obtain ⟨hc1, _⟩ := bcell hb1
    have hB1 := hid (hB0.out.trans (hb1.mono (by simp; omega)))
    clear hb1
    go_wp2
    go_ret
    exact ⟨by rw [hf.out]; rfl, hB1.out⟩
  | true =>
    have h1' := hid h1
    go_enter Try.func13, Try.ntmps13
    go_wp2_with fail
    refine (StampValid_spec _ _ _).mono ?_
    rw [h1'.out]
    rintro e w1 ⟨rfl, hb1⟩
    obtain ⟨hc1, _⟩ := bcell hb1
    have hb1' := hid hb1
    have hs1 : w.heap.size + 1 < w1.heap.size := by have := hb1.size; simp at this; omega
    have hs1a : w.heap.size < w1.heap.size := by omega
    have hB1 := hid (hB0.out.trans (hb1.mono (by simp; omega)))
    clear hb1
    cases h2 : stB c d with
    | false =>
      have hf := hid (show stL a b c d = false from stL_no2 h2)
      have h2' := hid h2
      clear h1 h2
      go_wp2_with fail
      refine (StampValid_spec _ _ _).mono ?_
      rw [h2'.out]
      rintro e w2 ⟨rfl, hb2⟩
      obtain ⟨hc2, _⟩ := bcell hb2
      have hB2 := hid (hB1.out.trans (hb2.mono (by omega)))
      clear hb2
      go_wp2
      go_ret
      exact ⟨by rw [hf.out]; rfl, hB2.out⟩
    | true =>
      have hf := hid (show stL a b c d = lexB a b c d from stL_yes h1 h2)
      have h2' := hid h2
      clear h1 h2
      go_wp2_with fail
      refine (StampValid_spec _ _ _).mono ?_
      rw [h2'.out]
      rintro e w2 ⟨rfl, hb2⟩
      obtain ⟨hc2, _⟩ := bcell hb2
      have hb2' := hid hb2
      have hs2 : w.heap.size + 1 < w2.heap.size := by have := hb2.size; omega
      have hs2a : w.heap.size < w2.heap.size := by omega
      have hB2 := hid (hB1.out.trans (hb2.mono (by omega)))
      clear hb2
      go_wp2_with fail
      refine (l2Less_any _ _ _ _ _).mono ?_
      rintro e w3 ⟨rfl, hb3⟩
      have hB3 := hid (hB2.out.trans (hb3.mono (by omega)))
      clear hb3
      go_wp2
      go_ret
      exact ⟨by rw [hf.out]; rfl, hB3.out⟩

set_option maxHeartbeats 1000000 in
theorem HybridLess_spec (a b c d : Int) (w : World) :
    Calls Try.prog 24 #[two a b, two c d] w fun e w' => e = .returned (.bool (hyL a b c d)) ∧ Below w.heap.size w w' := by
  have hB0 := hid (below2 w (.cells #[.int .i64 a, .int .i64 b] 41) (.cells #[.int .i64 c, .int .i64 d] 41))
  cases h1 : hyB a b with
  | false =>
    have hf := hid (show hyL a b c d = false from hyL_no1 h1)
    have h1' := hid h1
    clear h1
    go_enter Try.func24, Try.ntmps24
    go_wp2_with fail
    refine (HybridValid_spec _ _ _).mono ?_
    rw [h1'.out]
    rintro e w1 ⟨rfl, hb1⟩
    obtain ⟨hc1, _⟩ := bcell hb1
    have hB1 := hid (hB0.out.trans (hb1.mono (by simp; omega)))
    clear hb1
    go_wp2
    go_ret
    exact ⟨by rw [hf.out]; rfl, hB1.out⟩
  | true =>
    have h1' := hid h1
    go_enter Try.func24, Try.ntmps24
    go_wp2_with fail
    refine (HybridValid_spec _ _ _).mono ?_
    rw [h1'.out]
    rintro e w1 ⟨rfl, hb1⟩
    obtain ⟨hc1, _⟩ := bcell hb1
    have hb1' := hid hb1
    have hs1 : w.heap.size + 1 < w1.heap.size := by have := hb1.size; simp at this; omega
    have hs1a : w.heap.size < w1.heap.size := by omega
    have hB1 := hid (hB0.out.trans (hb1.mono (by simp; omega)))
    clear hb1
    cases h2 : hyB c d with
    | false =>
      have hf := hid (show hyL a b c d = false from hyL_no2 h2)
      have h2' := hid h2
      clear h1 h2
      go_wp2_with fail
      refine (HybridValid_spec _ _ _).mono ?_
      rw [h2'.out]
      rintro e w2 ⟨rfl, hb2⟩
      obtain ⟨hc2, _⟩ := bcell hb2
      have hB2 := hid (hB1.out.trans (hb2.mono (by omega)))
      clear hb2
      go_wp2
      go_ret
      exact ⟨by rw [hf.out]; rfl, hB2.out⟩
    | true =>
      have hf := hid (show hyL a b c d = lexB a b c d from hyL_yes h1 h2)
      have h2' := hid h2
      clear h1 h2
      go_wp2_with fail
      refine (HybridValid_spec _ _ _).mono ?_
      rw [h2'.out]
      rintro e w2 ⟨rfl, hb2⟩
      obtain ⟨hc2, _⟩ := bcell hb2
      have hb2' := hid hb2
      have hs2 : w.heap.size + 1 < w2.heap.size := by have := hb2.size; omega
      have hs2a : w.heap.size < w2.heap.size := by omega
      have hB2 := hid (hB1.out.trans (hb2.mono (by omega)))
      clear hb2
      rcases (show a < c ∨ a = c ∨ c < a by omega) with h | h | h
      · have hl := hid (show lexB a b c d = true from lexB_true.2 (by omega))
        go_wp2
        go_ret
        exact ⟨by rw [hf.out, hl.out]; rfl, hB2.out⟩
      · subst h
        have hl := hid (show lexB a b a d = decide (b < d) by simp [lexB])
        have hlt : decide (a < a) = false := by simp
        go_wp2
        go_ret
        exact ⟨by rw [hf.out, hl.out]; rfl, hB2.out⟩
      · have hl := hid (show lexB a b c d = false from lexB_false.2 (by omega))
        have h3 : (a == c) = false := by simp; omega
        have h4 : decide (a < c) = false := by simp; omega
        go_wp2
        go_ret
        exact ⟨by rw [hf.out, hl.out]; rfl, hB2.out⟩

set_option maxHeartbeats 1000000 in
theorem lessIfValidS (a b c d : Int) (w : World) :
    Calls Try.prog 35 #[two a b, two c d, .func (.func 12) #[] #[], .func (.func 36) #[two a b] #[]] w fun e w' => e = .returned (.bool (stL a b c d)) ∧ Below w.heap.size w w' := by
  have hB0 := hid (below2 w (.cells #[.int .i64 a, .int .i64 b] 25) (.cells #[.int .i64 c, .int .i64 d] 25))
  cases h1 : stB a b with
  | false =>
    have hf := hid (show stL a b c d = false from stL_no1 h1)
    have h1' := hid h1
    clear h1
    go_enter Try.func35, Try.ntmps35
    go_wp2_with fail
    refine (StampValid_impl _ _ _).mono ?_
    rw [h1'.out]
    rintro e w1 ⟨rfl, hb1⟩
    obtain ⟨hc1, _⟩ := bcell hb1
    have hB1 := hid (hB0.out.trans (hb1.mono (by simp; omega)))
    clear hb1
    go_wp2
    go_ret
    exact ⟨by rw [hf.out]; rfl, hB1.out⟩
  | true =>
    have h1' := hid h1
    go_enter Try.func35, Try.ntmps35
    go_wp2_with fail
    refine (StampValid_impl _ _ _).mono ?_
    rw [h1'.out]
    rintro e w1 ⟨rfl, hb1⟩
    obtain ⟨hc1, _⟩ := bcell hb1
    have hb1' := hid hb1
    have hs1 : w.heap.size + 1 < w1.heap.size := by have := hb1.size; simp at this; omega
    have hs1a : w.heap.size < w1.heap.size := by omega
    have hB1 := hid (hB0.out.trans (hb1.mono (by simp; omega)))
    clear hb1
    cases h2 : stB c d with
    | false =>
      have hf := hid (show stL a b c d = false from stL_no2 h2)
      have h2' := hid h2
      clear h1 h2
      go_wp2_with fail
      refine (StampValid_impl _ _ _).mono ?_
      rw [h2'.out]
      rintro e w2 ⟨rfl, hb2⟩
      obtain ⟨hc2, _⟩ := bcell hb2
      have hB2 := hid (hB1.out.trans (hb2.mono (by omega)))
      clear hb2
      go_wp2
      go_ret
      exact ⟨by rw [hf.out]; rfl, hB2.out⟩
    | true =>
      have hf := hid (show stL a b c d = lexB a b c d from stL_yes h1 h2)
      have h2' := hid h2
      clear h1 h2
      go_wp2_with fail
      refine (StampValid_impl _ _ _).mono ?_
      rw [h2'.out]
      rintro e w2 ⟨rfl, hb2⟩
      obtain ⟨hc2, _⟩ := bcell hb2
      have hs2 : w.heap.size + 1 < w2.heap.size := by have := hb2.size; omega
      have hs2a : w.heap.size < w2.heap.size := by omega
      have hB2 := hid (hB1.out.trans (hb2.mono (by omega)))
      clear hb2
      go_wp2_with fail
      refine (StampLessM _ _ _ _ _).mono ?_
      rintro e w3 ⟨rfl, hb3⟩
      have hB3 := hid (hB2.out.trans (hb3.mono (by omega)))
      clear hb3
      go_wp2
      go_ret
      exact ⟨by rw [hf.out]; rfl, hB3.out⟩

set_option maxHeartbeats 1000000 in
theorem StampLess_impl (a b c d : Int) (w : World) :
    Calls Try.prog 14 #[two a b, two c d] w fun e w' => e = .returned (.bool (stL a b c d)) ∧ Below w.heap.size w w' := by
  have hB0 := hid (below2 w (.cells #[.int .i64 a, .int .i64 b] 25) (.cells #[.int .i64 c, .int .i64 d] 25))
  have hmf : ∀ (fn : Fn) (first cap : Array Value) (w : World), (Instr.makeFunc fn first cap).run Try.prog w = .ok (.func fn first cap) w := fun _ _ _ _ => rfl
  go_enter Try.func14, Try.ntmps14
  go_wp2_with fail
  refine (lessIfValidS _ _ _ _ _).mono ?_
  rintro e w1 ⟨rfl, hb1⟩
  have hB1 := hid (hB0.out.trans (hb1.mono (by simp; omega)))
  clear hb1
  go_wp2
  go_ret
  exact ⟨rfl, hB1.out⟩

set_option maxHeartbeats 1000000 in
theorem lessIfValidH (a b c d : Int) (w : World) :
    Calls Try.prog 42 #[two a b, two c d, .func (.func 23) #[] #[], .func (.func 43) #[two a b] #[]] w fun e w' => e = .returned (.bool (hyL a b c d)) ∧ Below w.heap.size w w' := by
  have hB0 := hid (below2 w (.cells #[.int .i64 a, .int .i64 b] 41) (.cells #[.int .i64 c, .int .i64 d] 41))
  cases h1 : hyB a b with
  | false =>
    have hf := hid (show hyL a b c d = false from hyL_no1 h1)
    have h1' := hid h1
    clear h1
    go_enter Try.func42, Try.ntmps42
    go_wp2_with fail
    refine (HybridValid_impl _ _ _).mono ?_
    rw [h1'.out]
    rintro e w1 ⟨rfl, hb1⟩
    obtain ⟨hc1, _⟩ := bcell hb1
    have hB1 := hid (hB0.out.trans (hb1.mono (by simp; omega)))
    clear hb1
    go_wp2
    go_ret
    exact ⟨by rw [hf.out]; rfl, hB1.out⟩
  | true =>
    have h1' := hid h1
    go_enter Try.func42, Try.ntmps42
    go_wp2_with fail
    refine (HybridValid_impl _ _ _).mono ?_
    rw [h1'.out]
    rintro e w1 ⟨rfl, hb1⟩
    obtain ⟨hc1, _⟩ := bcell hb1
    have hb1' := hid hb1
    have hs1 : w.heap.size + 1 < w1.heap.size := by have := hb1.size; simp at this; omega
    have hs1a : w.heap.size < w1.heap.size := by omega
    have hB1 := hid (hB0.out.trans (hb1.mono (by simp; omega)))
    clear hb1
    cases h2 : hyB c d with
    | false =>
      have hf := hid (show hyL a b c d = false from hyL_no2 h2)
      have h2' := hid h2
      clear h1 h2
      go_wp2_with fail
      refine (HybridValid_impl _ _ _).mono ?_
      rw [h2'.out]
      rintro e w2 ⟨rfl, hb2⟩
      obtain ⟨hc2, _⟩ := bcell hb2
      have hB2 := hid (hB1.out.trans (hb2.mono (by omega)))
      clear hb2
      go_wp2
      go_ret
      exact ⟨by rw [hf.out]; rfl, hB2.out⟩
    | true =>
      have hf := hid (show hyL a b c d = lexB a b c d from hyL_yes h1 h2)
      have h2' := hid h2
      clear h1 h2
      go_wp2_with fail
      refine (HybridValid_impl _ _ _).mono ?_
      rw [h2'.out]
      rintro e w2 ⟨rfl, hb2⟩
      obtain ⟨hc2, _⟩ := bcell hb2
      have hs2 : w.heap.size + 1 < w2.heap.size := by have := hb2.size; omega
      have hs2a : w.heap.size < w2.heap.size := by omega
      have hB2 := hid (hB1.out.trans (hb2.mono (by omega)))
      clear hb2
      go_wp2_with fail
      refine (HybridLessM _ _ _ _ _).mono ?_
      rintro e w3 ⟨rfl, hb3⟩
      have hB3 := hid (hB2.out.trans (hb3.mono (by omega)))
      clear hb3
      go_wp2
      go_ret
      exact ⟨by rw [hf.out]; rfl, hB3.out⟩

set_option maxHeartbeats 1000000 in
theorem HybridLess_impl (a b c d : Int) (w : World) :
    Calls Try.prog 25 #[two a b, two c d] w fun e w' => e = .returned (.bool (hyL a b c d)) ∧ Below w.heap.size w w' := by
  have hB0 := hid (below2 w (.cells #[.int .i64 a, .int .i64 b] 41) (.cells #[.int .i64 c, .int .i64 d] 41))
  have hmf : ∀ (fn : Fn) (first cap : Array Value) (w : World), (Instr.makeFunc fn first cap).run Try.prog w = .ok (.func fn first cap) w := fun _ _ _ _ => rfl
  go_enter Try.func25, Try.ntmps25
  go_wp2_with fail
  refine (lessIfValidH _ _ _ _ _).mono ?_
  rintro e w1 ⟨rfl, hb1⟩
  have hB1 := hid (hB0.out.trans (hb1.mono (by simp; omega)))
  clear hb1
  go_wp2
  go_ret
  exact ⟨rfl, hB1.out⟩
end Go.Proofs.Ytmbmdhojefdihaa
