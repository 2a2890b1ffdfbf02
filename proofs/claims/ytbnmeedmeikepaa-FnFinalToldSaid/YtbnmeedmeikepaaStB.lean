/-
  Contracts of the readers of stamps and hybrid times: valid, less, of the model and of the program. No condition.
-/
import Derived.Test.YtbnmeedmeikepaaStA
import Derived.Test.YtbnmeedmeikepaaImplA
namespace Go.Proofs.Ytbnmeedmeikepaa
open Go.RowKit

theorem bcell {W w1 : World} (hb : Below W.heap.size W w1) : (∀ b o, b < W.heap.size → w1.cell? ⟨b, o, none⟩ = W.cell? ⟨b, o, none⟩) ∧ (∀ b o, b < W.heap.size → w1.frozen? ⟨b, o, none⟩ = W.frozen? ⟨b, o, none⟩) :=
  ⟨fun b o h => hb.cell (p := ⟨b, o, none⟩) h, fun b o h => hb.frozen (p := ⟨b, o, none⟩) h⟩
/-- two cells: a struct of two ints -/
abbrev two (a b : Int) : Value := .agg #[.int .i64 a, .int .i64 b]

theorem below1 (w : World) (o : Obj) : Below w.heap.size w (w.alloc o) := (Below.refl _ _).alloc (Nat.le_refl _) _

theorem below2 (w : World) (o p : Obj) : Below w.heap.size w ((w.alloc o).alloc p) := (below1 w o).alloc (by simp) _

theorem below3 (w : World) (o p q : Obj) : Below w.heap.size w (((w.alloc o).alloc p).alloc q) := (below2 w o p).alloc (by simp; omega) _

set_option maxHeartbeats 400000 in
theorem StampValid_spec (t g : Int) (w : World) :
    Calls Try.prog 39 #[two t g] w fun e w' => e = .returned (.bool (stB t g)) ∧ Below w.heap.size w w' := by
  have h0' := hid (below1 w (.cells #[.int .i64 t, .int .i64 g] 29))
  cases h1 : inB t 1 999 with
  | false =>
    have hf := hid (show stB t g = false by simp [stB, h1])
    have h1' := hid h1
    clear h1
    go_enter Try.func39, Try.ntmps39
    go_wp2_with (go_at_call 50; (with_reducible refine (l6In_any _ _ _ _).mono ?_); rw [h1'.out]; rintro e w' ⟨rfl, rfl⟩)
    go_ret
    exact ⟨by rw [hf.out]; rfl, h0'.out⟩
  | true =>
    have hf := hid (show stB t g = grB g by simp [stB, h1])
    have h1' := hid h1
    clear h1
    go_enter Try.func39, Try.ntmps39
    go_wp2_with (first
      | (go_at_call 50; (with_reducible refine (l6In_any _ _ _ _).mono ?_); rw [h1'.out]; rintro e w' ⟨rfl, rfl⟩)
      | (go_at_call 49; (with_reducible refine (l1Group_any _ _).mono ?_); rintro e w' ⟨rfl, rfl⟩))
    go_ret
    exact ⟨by rw [hf.out]; rfl, h0'.out⟩

set_option maxHeartbeats 400000 in
theorem StampValid_impl (t g : Int) (w : World) :
    Calls Try.prog 34 #[two t g] w fun e w' => e = .returned (.bool (stB t g)) ∧ Below w.heap.size w w' := by
  have h0' := hid (below1 w (.cells #[.int .i64 t, .int .i64 g] 29))
  by_cases h1 : 1 ≤ t
  · by_cases h2 : t ≤ 999
    · have hf := hid (show stB t g = grB g by simp [stB, inB, h1, h2])
      go_enter Try.func34, Try.ntmps34
      go_wp2_with (go_at_call 43; (with_reducible refine (groupExists_any _ _).mono ?_); rintro e w' ⟨rfl, rfl⟩)
      go_ret
      exact ⟨by rw [hf.out]; rfl, h0'.out⟩
    · have hf := hid (show stB t g = false from stB_false.2 (by omega))
      go_enter Try.func34, Try.ntmps34
      go_wp2
      go_ret
      exact ⟨by rw [hf.out]; rfl, h0'.out⟩
  · have hf := hid (show stB t g = false from stB_false.2 (by omega))
    go_enter Try.func34, Try.ntmps34
    go_wp2
    go_ret
    exact ⟨by rw [hf.out]; rfl, h0'.out⟩

set_option maxHeartbeats 400000 in
theorem StampLessM (a b c d : Int) (w : World) :
    Calls Try.prog 55 #[two a b, two c d] w fun e w' => e = .returned (.bool (lexB a b c d)) ∧ Below w.heap.size w w' := by
  have h0' := hid (below2 w (.cells #[.int .i64 a, .int .i64 b] 29) (.cells #[.int .i64 c, .int .i64 d] 29))
  rcases (show a < c ∨ a = c ∨ c < a by omega) with h | h | h
  · have hf := hid (show lexB a b c d = true from lexB_true.2 (by omega))
    have h2 : (a != c) = true := by simp; omega
    go_enter Try.func55, Try.ntmps55
    go_wp2
    go_ret
    exact ⟨by rw [hf.out]; rfl, h0'.out⟩
  · subst h
    have hf := hid (show lexB a b a d = decide (b < d) by simp [lexB])
    go_enter Try.func55, Try.ntmps55
    go_wp2
    go_ret
    exact ⟨by rw [hf.out]; rfl, h0'.out⟩
  · have hf := hid (show lexB a b c d = false from lexB_false.2 (by omega))
    have h2 : (a != c) = true := by simp; omega
    have h3 : (a == c) = false := by simp; omega
    have h4 : decide (a < c) = false := by simp; omega
    go_enter Try.func55, Try.ntmps55
    go_wp2
    go_ret
    exact ⟨by rw [hf.out]; rfl, h0'.out⟩

set_option maxHeartbeats 400000 in
theorem l2Less_any (a b c d : Int) (w : World) :
    Calls Try.prog 53 #[two a b, two c d] w fun e w' => e = .returned (.bool (lexB a b c d)) ∧ Below w.heap.size w w' := by
  have h0' := hid (below2 w (.cells #[.int .i64 a, .int .i64 b] 29) (.cells #[.int .i64 c, .int .i64 d] 29))
  rcases (show a < c ∨ a = c ∨ c < a by omega) with h | h | h
  · have hf := hid (show lexB a b c d = true from lexB_true.2 (by omega))
    have h2 : (a != c) = true := by simp; omega
    go_enter Try.func53, Try.ntmps53
    go_wp2
    go_ret
    exact ⟨by rw [hf.out]; rfl, h0'.out⟩
  · subst h
    have hf := hid (show lexB a b a d = decide (b < d) by simp [lexB])
    go_enter Try.func53, Try.ntmps53
    go_wp2
    go_ret
    exact ⟨by rw [hf.out]; rfl, h0'.out⟩
  · have hf := hid (show lexB a b c d = false from lexB_false.2 (by omega))
    have h2 : (a != c) = true := by simp; omega
    have h3 : (a == c) = false := by simp; omega
    have h4 : decide (a < c) = false := by simp; omega
    go_enter Try.func53, Try.ntmps53
    go_wp2
    go_ret
    exact ⟨by rw [hf.out]; rfl, h0'.out⟩
end Go.Proofs.Ytbnmeedmeikepaa
