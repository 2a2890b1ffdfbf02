/-
  Several of my texts in one: StA StB StC StD StE At2. No condition.
-/
import Derived.Test.YtbgkinaoelicnaaMgA
import Derived.Deep.RegionHeld3

namespace Go.Proofs.Ytbgkinaoelicnaa

/-- the order of pairs -/
def lexB (a b c d : Int) : Bool := decide (a < c) || (decide (a = c) && decide (b < d))

theorem lexB_true {a b c d : Int} : lexB a b c d = true ↔ (a < c ∨ (a = c ∧ b < d)) := by simp [lexB]

theorem lexB_false {a b c d : Int} : lexB a b c d = false ↔ (c < a ∨ (a = c ∧ d ≤ b)) := by rw [← Bool.not_eq_true, lexB_true]; omega

theorem lexB_irr (a b : Int) : lexB a b a b = false := lexB_false.2 (by omega)

theorem lexB_asymm {a b c d : Int} (h : lexB a b c d = true) : lexB c d a b = false := by
  rw [lexB_true] at h; rw [lexB_false]; omega

theorem lexB_tot {a b c d : Int} (h : lexB a b c d = false) (k : lexB c d a b = false) : a = c ∧ b = d := by
  rw [lexB_false] at h k; omega

theorem lexB_trans {a b c d e f : Int} (h : lexB a b c d = true) (k : lexB c d e f = true) : lexB a b e f = true := by
  rw [lexB_true] at *; omega
/-- if x is not less than y and not less than z .. -/
theorem lexB_ntrans {a b c d e f : Int} (h : lexB a b c d = false) (k : lexB c d e f = false) : lexB a b e f = false := by
  rw [lexB_false] at *; omega

def stB (t g : Int) : Bool := inB t 1 999 && grB g

theorem stB_true {t g : Int} : stB t g = true ↔ (1 ≤ t ∧ t ≤ 999 ∧ 0 ≤ g ∧ g ≤ 4) := by
  simp only [stB, Bool.and_eq_true, inB_true, grB_true]; omega

theorem stB_false {t g : Int} : stB t g = false ↔ (t < 1 ∨ 999 < t ∨ g < 0 ∨ 4 < g) := by rw [← Bool.not_eq_true, stB_true]; omega

def stL (t g u h : Int) : Bool := stB t g && stB u h && lexB t g u h

theorem stL_no1 {t g u h : Int} (e : stB t g = false) : stL t g u h = false := by simp [stL, e]

theorem stL_no2 {t g u h : Int} (e : stB u h = false) : stL t g u h = false := by simp [stL, e]

theorem stL_yes {t g u h : Int} (e : stB t g = true) (k : stB u h = true) : stL t g u h = lexB t g u h := by simp [stL, e, k]

def hyB (x c : Int) : Bool := inB x 0 999 && inB c 0 99

theorem hyB_true {x c : Int} : hyB x c = true ↔ (0 ≤ x ∧ x ≤ 999 ∧ 0 ≤ c ∧ c ≤ 99) := by
  simp only [hyB, Bool.and_eq_true, inB_true]; omega

theorem hyB_false {x c : Int} : hyB x c = false ↔ (x < 0 ∨ 999 < x ∨ c < 0 ∨ 99 < c) := by rw [← Bool.not_eq_true, hyB_true]; omega

def hyL (t g u h : Int) : Bool := hyB t g && hyB u h && lexB t g u h

theorem hyL_no1 {t g u h : Int} (e : hyB t g = false) : hyL t g u h = false := by simp [hyL, e]

theorem hyL_no2 {t g u h : Int} (e : hyB u h = false) : hyL t g u h = false := by simp [hyL, e]

theorem hyL_yes {t g u h : Int} (e : hyB t g = true) (k : hyB u h = true) : hyL t g u h = lexB t g u h := by simp [hyL, e, k]

/-- the next hybrid time: is there one, its wall, its count -/
def tickOk (x c p : Int) : Bool := hyB x c && (inB p 0 999 && (decide (x < p) || decide (c < 99)))

def tickW (x c p : Int) : Int := if tickOk x c p then (if x < p then p else x) else 0

def tickC (x c p : Int) : Int := if tickOk x c p then (if x < p then 0 else c + 1) else 0

theorem tickOk_true {x c p : Int} : tickOk x c p = true ↔ (hyB x c = true ∧ 0 ≤ p ∧ p ≤ 999 ∧ (x < p ∨ c < 99)) := by
  by_cases h : hyB x c = true <;> simp [tickOk, h, inB] <;> omega

theorem tickOk_false {x c p : Int} : tickOk x c p = false ↔ (hyB x c = false ∨ p < 0 ∨ 999 < p ∨ (p ≤ x ∧ 99 ≤ c)) := by
  rw [← Bool.not_eq_true, tickOk_true, ← Bool.not_eq_true (hyB x c)]
  by_cases h : hyB x c = true <;> simp [h] <;> omega

theorem tickW_no {x c p : Int} (h : tickOk x c p = false) : tickW x c p = 0 := by simp [tickW, h]

theorem tickC_no {x c p : Int} (h : tickOk x c p = false) : tickC x c p = 0 := by simp [tickC, h]

theorem tickW_hi {x c p : Int} (h : tickOk x c p = true) (k : x < p) : tickW x c p = p := by simp [tickW, h, k]

theorem tickC_hi {x c p : Int} (h : tickOk x c p = true) (k : x < p) : tickC x c p = 0 := by simp [tickC, h, k]

theorem tickW_lo {x c p : Int} (h : tickOk x c p = true) (k : p ≤ x) : tickW x c p = x := by
  have : ¬ x < p := by omega
  simp [tickW, h, this]

theorem tickC_lo {x c p : Int} (h : tickOk x c p = true) (k : p ≤ x) : tickC x c p = c + 1 := by
  have : ¬ x < p := by omega
  simp [tickC, h, this]
end Go.Proofs.Ytbgkinaoelicnaa

namespace Go.Proofs.Ytbgkinaoelicnaa
open Go.RowKit

theorem bcell {W w1 : World} (hb : Below W.heap.size W w1) : (∀ b o, b < W.heap.size → w1.cell? ⟨b, o, none⟩ = W.cell? ⟨b, o, none⟩) ∧ (∀ b o, b < W.heap.size → w1.frozen? ⟨b, o, none⟩ = W.frozen? ⟨b, o, none⟩) :=
  ⟨fun b o h => hb.cell (p := ⟨b, o, none⟩) h, fun b o h => hb.frozen (p := ⟨b, o, none⟩) h⟩
/-- two cells: a struct of two ints -/
abbrev two (a b : Int) : Value := .agg #[.int .i64 a, .int .i64 b]

theorem below1 (w : World) (o : Obj) : Below w.heap.size w (w.alloc o) := (Below.refl _ _).alloc (Nat.le_refl _) _

theorem below2 (w : World) (o p : Obj) : Below w.heap.size w ((w.alloc o).alloc p) := (below1 w o).alloc (by simp) _

theorem below3 (w : World) (o p q : Obj) : Below w.heap.size w (((w.alloc o).alloc p).alloc q) := (below2 w o p).alloc (by simp; omega) _

set_option maxHeartbeats 400000 in
theorem StampValid_spec (t g : Int) (w : World) :
    Calls Try.prog 32 #[two t g] w fun e w' => e = .returned (.bool (stB t g)) ∧ Below w.heap.size w w' := by
  have h0' := hid (below1 w (.cells #[.int .i64 t, .int .i64 g] 38))
  cases h1 : inB t 1 999 with
  | false =>
    have hf := hid (show stB t g = false by simp [stB, h1])
    have h1' := hid h1
    clear h1
    go_enter Try.func32, Try.ntmps32
    go_wp2_with (go_at_call 19; (with_reducible refine (l6In_any _ _ _ _).mono ?_); rw [h1'.out]; rintro e w' ⟨rfl, rfl⟩)
    go_ret
    exact ⟨by rw [hf.out]; rfl, h0'.out⟩
  | true =>
    have hf := hid (show stB t g = grB g by simp [stB, h1])
    have h1' := hid h1
    clear h1
    go_enter Try.func32, Try.ntmps32
    go_wp2_with (first
      | (go_at_call 19; (with_reducible refine (l6In_any _ _ _ _).mono ?_); rw [h1'.out]; rintro e w' ⟨rfl, rfl⟩)
      | (go_at_call 18; (with_reducible refine (l1Group_any _ _).mono ?_); rintro e w' ⟨rfl, rfl⟩))
    go_ret
    exact ⟨by rw [hf.out]; rfl, h0'.out⟩

set_option maxHeartbeats 400000 in
theorem StampValid_impl (t g : Int) (w : World) :
    Calls Try.prog 39 #[two t g] w fun e w' => e = .returned (.bool (stB t g)) ∧ Below w.heap.size w w' := by
  have h0' := hid (below1 w (.cells #[.int .i64 t, .int .i64 g] 38))
  by_cases h1 : 1 ≤ t
  · by_cases h2 : t ≤ 999
    · have hf := hid (show stB t g = grB g by simp [stB, inB, h1, h2])
      go_enter Try.func39, Try.ntmps39
      go_wp2_with (go_at_call 23; (with_reducible refine (groupExists_any _ _).mono ?_); rintro e w' ⟨rfl, rfl⟩)
      go_ret
      exact ⟨by rw [hf.out]; rfl, h0'.out⟩
    · have hf := hid (show stB t g = false from stB_false.2 (by omega))
      go_enter Try.func39, Try.ntmps39
      go_wp2
      go_ret
      exact ⟨by rw [hf.out]; rfl, h0'.out⟩
  · have hf := hid (show stB t g = false from stB_false.2 (by omega))
    go_enter Try.func39, Try.ntmps39
    go_wp2
    go_ret
    exact ⟨by rw [hf.out]; rfl, h0'.out⟩

set_option maxHeartbeats 400000 in
theorem StampLessM (a b c d : Int) (w : World) :
    Calls Try.prog 29 #[two a b, two c d] w fun e w' => e = .returned (.bool (lexB a b c d)) ∧ Below w.heap.size w w' := by
  have h0' := hid (below2 w (.cells #[.int .i64 a, .int .i64 b] 38) (.cells #[.int .i64 c, .int .i64 d] 38))
  rcases (show a < c ∨ a = c ∨ c < a by omega) with h | h | h
  · have hf := hid (show lexB a b c d = true from lexB_true.2 (by omega))
    have h2 : (a != c) = true := by simp; omega
    go_enter Try.func29, Try.ntmps29
    go_wp2
    go_ret
    exact ⟨by rw [hf.out]; rfl, h0'.out⟩
  · subst h
    have hf := hid (show lexB a b a d = decide (b < d) by simp [lexB])
    go_enter Try.func29, Try.ntmps29
    go_wp2
    go_ret
    exact ⟨by rw [hf.out]; rfl, h0'.out⟩
  · have hf := hid (show lexB a b c d = false from lexB_false.2 (by omega))
    have h2 : (a != c) = true := by simp; omega
    have h3 : (a == c) = false := by simp; omega
    have h4 : decide (a < c) = false := by simp; omega
    go_enter Try.func29, Try.ntmps29
    go_wp2
    go_ret
    exact ⟨by rw [hf.out]; rfl, h0'.out⟩

set_option maxHeartbeats 400000 in
theorem l2Less_any (a b c d : Int) (w : World) :
    Calls Try.prog 12 #[two a b, two c d] w fun e w' => e = .returned (.bool (lexB a b c d)) ∧ Below w.heap.size w w' := by
  have h0' := hid (below2 w (.cells #[.int .i64 a, .int .i64 b] 38) (.cells #[.int .i64 c, .int .i64 d] 38))
  rcases (show a < c ∨ a = c ∨ c < a by omega) with h | h | h
  · have hf := hid (show lexB a b c d = true from lexB_true.2 (by omega))
    have h2 : (a != c) = true := by simp; omega
    go_enter Try.func12, Try.ntmps12
    go_wp2
    go_ret
    exact ⟨by rw [hf.out]; rfl, h0'.out⟩
  · subst h
    have hf := hid (show lexB a b a d = decide (b < d) by simp [lexB])
    go_enter Try.func12, Try.ntmps12
    go_wp2
    go_ret
    exact ⟨by rw [hf.out]; rfl, h0'.out⟩
  · have hf := hid (show lexB a b c d = false from lexB_false.2 (by omega))
    have h2 : (a != c) = true := by simp; omega
    have h3 : (a == c) = false := by simp; omega
    have h4 : decide (a < c) = false := by simp; omega
    go_enter Try.func12, Try.ntmps12
    go_wp2
    go_ret
    exact ⟨by rw [hf.out]; rfl, h0'.out⟩
end Go.Proofs.Ytbgkinaoelicnaa

namespace Go.Proofs.Ytbgkinaoelicnaa
open Go.RowKit

end Go.Proofs.Ytbgkinaoelicnaa

namespace Go.Proofs.Ytbgkinaoelicnaa
open Go.RowKit

theorem ret_two {a b c d : Int} {p q : Bool} (h1 : a = c) (h2 : b = d) (h3 : p = q) : Ending.returned (.tuple #[two a b, .bool p]) = .returned (.tuple #[two c d, .bool q]) := by rw [h1, h2, h3]

end Go.Proofs.Ytbgkinaoelicnaa

namespace Go.Proofs.Ytbgkinaoelicnaa
open Go.RowKit

theorem cell_far (w : World) (p a : Addr) (v : Value) (h : p.block ≠ a.block) : (w.setCell p v).cell? a = w.cell? a := World.cell?_setCell_other w p a v (fun e => h (by rw [e]))

/-- the greater one of two hybrid times -/
def gW (x c y d : Int) : Int := if lexB x c y d then y else x

def gC (x c y d : Int) : Int := if lexB x c y d then d else c

theorem gW_lt {x c y d : Int} (h : lexB x c y d = true) : gW x c y d = y := by simp [gW, h]

theorem gC_lt {x c y d : Int} (h : lexB x c y d = true) : gC x c y d = d := by simp [gC, h]

theorem gW_ge {x c y d : Int} (h : lexB x c y d = false) : gW x c y d = x := by simp [gW, h]

theorem gC_ge {x c y d : Int} (h : lexB x c y d = false) : gC x c y d = c := by simp [gC, h]

def mOk (x c p y d : Int) : Bool := hyB x c && (hyB y d && tickOk (gW x c y d) (gC x c y d) p)

def mW (x c p y d : Int) : Int := if mOk x c p y d then tickW (gW x c y d) (gC x c y d) p else 0

def mC (x c p y d : Int) : Int := if mOk x c p y d then tickC (gW x c y d) (gC x c y d) p else 0

def MergeIs (x c p y d W C : Int) (o : Bool) : Prop := mW x c p y d = W ∧ mC x c p y d = C ∧ mOk x c p y d = o

theorem merge_no {x c p y d : Int} (h : hyB x c = false ∨ hyB y d = false ∨ inB p 0 999 = false) : MergeIs x c p y d 0 0 false := by
  have ho : mOk x c p y d = false := by
    rcases h with h | h | h
    · simp [mOk, h]
    · simp [mOk, h]
    · simp [mOk, tickOk, h]
  exact ⟨by simp [mW, ho], by simp [mC, ho], ho⟩
/-- both are valid: the greater one ticks -/
theorem merge_tick {x c p y d : Int} (h : hyB x c = true) (k : hyB y d = true) :
    MergeIs x c p y d (tickW (gW x c y d) (gC x c y d) p) (tickC (gW x c y d) (gC x c y d) p) (tickOk (gW x c y d) (gC x c y d) p) := by
  have ho : mOk x c p y d = tickOk (gW x c y d) (gC x c y d) p := by simp [mOk, h, k]
  refine ⟨?_, ?_, ho⟩
  · rw [mW, ho]; cases e : tickOk (gW x c y d) (gC x c y d) p <;> simp [tickW_no, e]
  · rw [mC, ho]; cases e : tickOk (gW x c y d) (gC x c y d) p <;> simp [tickC_no, e]
/-- the wall and the count before one more, where they are known -/
theorem merge_hi {x c p y d : Int} (h : hyB x c = true) (k : hyB y d = true) (hp : inB p 0 999 = true) (h1 : x < p) (h2 : y < p) : MergeIs x c p y d p 0 true := by
  have hg : gW x c y d < p := by unfold gW; split <;> assumption
  have hy : hyB (gW x c y d) (gC x c y d) = true := by unfold gW gC; cases lexB x c y d <;> assumption
  have ho : tickOk (gW x c y d) (gC x c y d) p = true := tickOk_true.2 (by have := inB_true.1 hp; exact ⟨hy, by omega, by omega, .inl hg⟩)
  have := merge_tick h k (p := p)
  rw [tickW_hi ho hg, tickC_hi ho hg, ho] at this
  exact this

theorem merge_lo {x c p y d W C : Int} (h : hyB x c = true) (k : hyB y d = true) (hp : inB p 0 999 = true) (h1 : x ≤ W) (h2 : y ≤ W) (h3 : p ≤ W)
    (h4 : (x = W ∧ C = c ∧ (y = W → d ≤ c)) ∨ (y = W ∧ C = d ∧ (x = W → c ≤ d))) :
    (C < 99 → MergeIs x c p y d W (C + 1) true) ∧ (C = 99 → MergeIs x c p y d 0 0 false) := by
  have hg : gW x c y d = W ∧ gC x c y d = C := by
    cases e : lexB x c y d with
    | true => rw [gW_lt e, gC_lt e]; rw [lexB_true] at e; omega
    | false => rw [gW_ge e, gC_ge e]; rw [lexB_false] at e; omega
  have hy : hyB W C = true := by
    rw [← hg.1, ← hg.2]; unfold gW gC; cases lexB x c y d <;> assumption
  have hq := inB_true.1 hp
  have hm := merge_tick h k (p := p)
  rw [hg.1, hg.2] at hm
  refine ⟨fun hc => ?_, fun hc => ?_⟩
  · have ho : tickOk W C p = true := tickOk_true.2 ⟨hy, by omega, by omega, .inr hc⟩
    rw [tickW_lo ho h3, tickC_lo ho h3, ho] at hm
    exact hm
  · have ho : tickOk W C p = false := tickOk_false.2 (by omega)
    rw [tickW_no ho, tickC_no ho, ho] at hm
    exact hm

abbrev MergePost (x c p y d : Int) (w : World) : Ending → World → Prop := fun e w' => e = .returned (.tuple #[two (mW x c p y d) (mC x c p y d), .bool (mOk x c p y d)]) ∧ Below w.heap.size w w'

end Go.Proofs.Ytbgkinaoelicnaa

namespace Go.Proofs.Ytbgkinaoelicnaa
open Go.RowKit

/-- block b is a struct of two ints -/
def At2 (w : World) (b : Nat) (T : TypeId) (x y : Int) : Prop := w.heap[b]? = some (.cells #[.int .i64 x, .int .i64 y] T (0, 0))
section
variable {w w' : World} {b : Nat} {T : TypeId} {x y : Int}

theorem At2.lt (h : At2 w b T x y) : b < w.heap.size := (Array.getElem?_eq_some_iff.1 h).1

theorem At2.c0 (h : At2 w b T x y) : w.cell? ⟨b, 0, none⟩ = some (.int .i64 x) := by rw [cell_of_row w b 0 _ _ (0, 0) h]; rfl

theorem At2.c1 (h : At2 w b T x y) : w.cell? ⟨b, 1, none⟩ = some (.int .i64 y) := by rw [cell_of_row w b 1 _ _ (0, 0) h]; rfl

theorem At2.f0 (h : At2 w b T x y) : w.frozen? ⟨b, 0, none⟩ = false := frozen_of_row w b 0 _ _ h

theorem At2.f1 (h : At2 w b T x y) : w.frozen? ⟨b, 1, none⟩ = false := frozen_of_row w b 1 _ _ h

theorem At2.keep (h : At2 w b T x y) (hb : w'.heap[b]? = w.heap[b]?) : At2 w' b T x y := hb.trans h

theorem At2.grown {g : Nat} (h : At2 w b T x y) (hg : w.grownBy w' (some g)) (hne : b ≠ g) : At2 w' b T x y := h.keep (hg.block b h.lt (fun e => hne (by injection e)))

theorem At2.below {B : Nat} (h : At2 w b T x y) (hb : Below B w w') (hB : b < B) : At2 w' b T x y := h.keep (hb.block b hB)

theorem At2.new (w : World) (T : TypeId) (x y : Int) : At2 (w.alloc (.cells #[.int .i64 x, .int .i64 y] T)) w.heap.size T x y := heap_alloc_new w _

theorem At2.alloc (h : At2 w b T x y) (o : Obj) : At2 (w.alloc o) b T x y := h.keep (Below.heap_alloc w o b h.lt)

theorem At2.set0 (h : At2 w b T x y) (z : Int) : At2 (w.setCell ⟨b, 0, none⟩ (.int .i64 z)) b T z y := by
  unfold At2; rw [heap_setCell_same w b 0 _ _ _ h]; rfl

theorem At2.set1 (h : At2 w b T x y) (z : Int) : At2 (w.setCell ⟨b, 1, none⟩ (.int .i64 z)) b T x z := by
  unfold At2; rw [heap_setCell_same w b 1 _ _ _ h]; rfl

theorem At2.far (h : At2 w b T x y) {p : Addr} (hne : b ≠ p.block) (u : Value) : At2 (w.setCell p u) b T x y := h.keep (heap_setCell_other w p b u hne)

theorem At2.drewN (h : At2 w b T x y) (n : Nat) : At2 (w.drewN n) b T x y := h

theorem At2.drew (h : At2 w b T x y) : At2 w.drew b T x y := h
end

theorem At2.cells {w : World} {b : Nat} {T : TypeId} {x y : Int} (h : At2 w b T x y) : w.cell? ⟨b, 0, none⟩ = some (.int .i64 x) ∧ w.cell? ⟨b, 1, none⟩ = some (.int .i64 y) ∧ w.frozen? ⟨b, 0, none⟩ = false ∧ w.frozen? ⟨b, 1, none⟩ = false :=
  ⟨h.c0, h.c1, h.f0, h.f1⟩
/-- a row of ints that lies in block b -/
def AtN (w : World) (b : Nat) (T : TypeId) (zs : List Int) : Prop := w.heap[b]? = some (.cells (ints zs).toArray T (0, 0))

theorem AtN.grown {w w' : World} {b g : Nat} {T : TypeId} {zs : List Int} (h : AtN w b T zs) (hg : w.grownBy w' (some g)) (hne : b ≠ g) : AtN w' b T zs :=
  (hg.block b (Array.getElem?_eq_some_iff.1 h).1 (fun e => hne (by injection e))).trans h

theorem AtN.cell {w : World} {b : Nat} {T : TypeId} {zs : List Int} (h : AtN w b T zs) {k : Nat} (hk : k < zs.length) : ∃ z : Int, w.cell? ⟨b, k, none⟩ = some (.int .i64 z) := by
  refine ⟨zs[k], ?_⟩
  rw [cell_of_row w b k _ _ (0, 0) h]
  simp [ints, hk]

end Go.Proofs.Ytbgkinaoelicnaa
