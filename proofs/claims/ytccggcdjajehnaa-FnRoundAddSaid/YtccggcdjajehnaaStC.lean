/-
  Contracts of StampLess and HybridLess, of the model and of the program; the program's order of function values. No condition.
-/
import Derived.Test.YtccggcdjajehnaaStB
namespace Go.Proofs.Ytccggcdjajehnaa
open Go.RowKit

set_option maxHeartbeats 1000000 in
theorem lessIfValidS (a b c d : Int) (w : World) :
    Calls Try.prog 55 #[two a b, two c d, .func (.func 44) #[] #[], .func (.func 54) #[two a b] #[]] w fun e w' => e = .returned (.bool (stL a b c d)) ∧ Below w.heap.size w w' := by
  have hB0 := hid (below2 w (.cells #[.int .i64 a, .int .i64 b] 33) (.cells #[.int .i64 c, .int .i64 d] 33))
  cases h1 : stB a b with
  | false =>
    have hf := hid (show stL a b c d = false from stL_no1 h1)
    have h1' := hid h1
    clear h1
    go_enter Try.func55, Try.ntmps55
    go_wp2_with fail
    refine (StampValid_impl _ _ _).mono ?_
    rw [h1'.out]
    rintro e w1 ⟨rfl, hb1⟩
    obtain ⟨hc1, _⟩ := bcell hb1
    have hB1 := hid (hB0.out.trans (hb1.mono (by simp; omega)))
    clear hb1
    go_wp2
    go_ret
    exact ⟨by rw [hf.out]; rfl, hB1.out⟩
  | true =>
    have h1' := hid h1
    go_enter Try.func55, Try.ntmps55
    go_wp2_with fail
    refine (StampValid_impl _ _ _).mono ?_
    rw [h1'.out]
    rintro e w1 ⟨rfl, hb1⟩
    obtain ⟨hc1, _⟩ := bcell hb1
    have hb1' := hid hb1
    have hs1 : w.heap.size + 1 < w1.heap.size := by have := hb1.size; simp at this; omega
    have hs1a : w.heap.size < w1.heap.size := by omega
    have hB1 := hid (hB0.out.trans (hb1.mono (by simp; omega)))
    clear hb1
    cases h2 : stB c d with
    | false =>
      have hf := hid (show stL a b c d = false from stL_no2 h2)
      have h2' := hid h2
      clear h1 h2
      go_wp2_with fail
      refine (StampValid_impl _ _ _).mono ?_
      rw [h2'.out]
      rintro e w2 ⟨rfl, hb2⟩
      obtain ⟨hc2, _⟩ := bcell hb2
      have hB2 := hid (hB1.out.trans (hb2.mono (by omega)))
      clear hb2
      go_wp2
      go_ret
      exact ⟨by rw [hf.out]; rfl, hB2.out⟩
    | true =>
      have hf := hid (show stL a b c d = lexB a b c d from stL_yes h1 h2)
      have h2' := hid h2
      clear h1 h2
      go_wp2_with fail
      refine (StampValid_impl _ _ _).mono ?_
      rw [h2'.out]
      rintro e w2 ⟨rfl, hb2⟩
      obtain ⟨hc2, _⟩ := bcell hb2
      have hs2 : w.heap.size + 1 < w2.heap.size := by have := hb2.size; omega
      have hs2a : w.heap.size < w2.heap.size := by omega
      have hB2 := hid (hB1.out.trans (hb2.mono (by omega)))
      clear hb2
      go_wp2_with fail
      refine (StampLessM _ _ _ _ _).mono ?_
      rintro e w3 ⟨rfl, hb3⟩
      have hB3 := hid (hB2.out.trans (hb3.mono (by omega)))
      clear hb3
      go_wp2
      go_ret
      exact ⟨by rw [hf.out]; rfl, hB3.out⟩

set_option maxHeartbeats 1000000 in
theorem StampLess_impl (a b c d : Int) (w : World) :
    Calls Try.prog 30 #[two a b, two c d] w fun e w' => e = .returned (.bool (stL a b c d)) ∧ Below w.heap.size w w' := by
  have hB0 := hid (below2 w (.cells #[.int .i64 a, .int .i64 b] 33) (.cells #[.int .i64 c, .int .i64 d] 33))
  have hmf : ∀ (fn : Fn) (first cap : Array Value) (w : World), (Instr.makeFunc fn first cap).run Try.prog w = .ok (.func fn first cap) w := fun _ _ _ _ => rfl
  go_enter Try.func30, Try.ntmps30
  go_wp2_with fail
  refine (lessIfValidS _ _ _ _ _).mono ?_
  rintro e w1 ⟨rfl, hb1⟩
  have hB1 := hid (hB0.out.trans (hb1.mono (by simp; omega)))
  clear hb1
  go_wp2
  go_ret
  exact ⟨rfl, hB1.out⟩

end Go.Proofs.Ytccggcdjajehnaa
