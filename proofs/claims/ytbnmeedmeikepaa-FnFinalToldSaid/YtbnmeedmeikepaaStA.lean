/-
  Plain mathematics of stamps and hybrid times: no program.
-/
import Derived.Test.YtbnmeedmeikepaaPure
namespace Go.Proofs.Ytbnmeedmeikepaa

/-- the order of pairs -/
def lexB (a b c d : Int) : Bool := decide (a < c) || (decide (a = c) && decide (b < d))

theorem lexB_true {a b c d : Int} : lexB a b c d = true ↔ (a < c ∨ (a = c ∧ b < d)) := by simp [lexB]

theorem lexB_false {a b c d : Int} : lexB a b c d = false ↔ (c < a ∨ (a = c ∧ d ≤ b)) := by rw [← Bool.not_eq_true, lexB_true]; omega

theorem lexB_irr (a b : Int) : lexB a b a b = false := lexB_false.2 (by omega)

theorem lexB_asymm {a b c d : Int} (h : lexB a b c d = true) : lexB c d a b = false := by
  rw [lexB_true] at h; rw [lexB_false]; omega

theorem lexB_tot {a b c d : Int} (h : lexB a b c d = false) (k : lexB c d a b = false) : a = c ∧ b = d := by
  rw [lexB_false] at h k; omega

theorem lexB_trans {a b c d e f : Int} (h : lexB a b c d = true) (k : lexB c d e f = true) : lexB a b e f = true := by
  rw [lexB_true] at *; omega
/-- if x is not less than y and not less than z .. -/
theorem lexB_ntrans {a b c d e f : Int} (h : lexB a b c d = false) (k : lexB c d e f = false) : lexB a b e f = false := by
  rw [lexB_false] at *; omega

def stB (t g : Int) : Bool := inB t 1 999 && grB g

theorem stB_true {t g : Int} : stB t g = true ↔ (1 ≤ t ∧ t ≤ 999 ∧ 0 ≤ g ∧ g ≤ 4) := by
  simp only [stB, Bool.and_eq_true, inB_true, grB_true]; omega

theorem stB_false {t g : Int} : stB t g = false ↔ (t < 1 ∨ 999 < t ∨ g < 0 ∨ 4 < g) := by rw [← Bool.not_eq_true, stB_true]; omega

def stL (t g u h : Int) : Bool := stB t g && stB u h && lexB t g u h

theorem stL_no1 {t g u h : Int} (e : stB t g = false) : stL t g u h = false := by simp [stL, e]

theorem stL_no2 {t g u h : Int} (e : stB u h = false) : stL t g u h = false := by simp [stL, e]

theorem stL_yes {t g u h : Int} (e : stB t g = true) (k : stB u h = true) : stL t g u h = lexB t g u h := by simp [stL, e, k]

def hyB (x c : Int) : Bool := inB x 0 999 && inB c 0 99

theorem hyB_true {x c : Int} : hyB x c = true ↔ (0 ≤ x ∧ x ≤ 999 ∧ 0 ≤ c ∧ c ≤ 99) := by
  simp only [hyB, Bool.and_eq_true, inB_true]; omega

theorem hyB_false {x c : Int} : hyB x c = false ↔ (x < 0 ∨ 999 < x ∨ c < 0 ∨ 99 < c) := by rw [← Bool.not_eq_true, hyB_true]; omega

def hyL (t g u h : Int) : Bool := hyB t g && hyB u h && lexB t g u h

theorem hyL_no1 {t g u h : Int} (e : hyB t g = false) : hyL t g u h = false := by simp [hyL, e]

theorem hyL_no2 {t g u h : Int} (e : hyB u h = false) : hyL t g u h = false := by simp [hyL, e]

theorem hyL_yes {t g u h : Int} (e : hyB t g = true) (k : hyB u h = true) : hyL t g u h = lexB t g u h := by simp [hyL, e, k]

/-- the next hybrid time: is there one, its wall, its count -/
def tickOk (x c p : Int) : Bool := hyB x c && (inB p 0 999 && (decide (x < p) || decide (c < 99)))

def tickW (x c p : Int) : Int := if tickOk x c p then (if x < p then p else x) else 0

def tickC (x c p : Int) : Int := if tickOk x c p then (if x < p then 0 else c + 1) else 0

theorem tickOk_true {x c p : Int} : tickOk x c p = true ↔ (hyB x c = true ∧ 0 ≤ p ∧ p ≤ 999 ∧ (x < p ∨ c < 99)) := by
  by_cases h : hyB x c = true <;> simp [tickOk, h, inB] <;> omega

theorem tickOk_false {x c p : Int} : tickOk x c p = false ↔ (hyB x c = false ∨ p < 0 ∨ 999 < p ∨ (p ≤ x ∧ 99 ≤ c)) := by
  rw [← Bool.not_eq_true, tickOk_true, ← Bool.not_eq_true (hyB x c)]
  by_cases h : hyB x c = true <;> simp [h] <;> omega

theorem tickW_no {x c p : Int} (h : tickOk x c p = false) : tickW x c p = 0 := by simp [tickW, h]

theorem tickC_no {x c p : Int} (h : tickOk x c p = false) : tickC x c p = 0 := by simp [tickC, h]

theorem tickW_hi {x c p : Int} (h : tickOk x c p = true) (k : x < p) : tickW x c p = p := by simp [tickW, h, k]

theorem tickC_hi {x c p : Int} (h : tickOk x c p = true) (k : x < p) : tickC x c p = 0 := by simp [tickC, h, k]

theorem tickW_lo {x c p : Int} (h : tickOk x c p = true) (k : p ≤ x) : tickW x c p = x := by
  have : ¬ x < p := by omega
  simp [tickW, h, this]

theorem tickC_lo {x c p : Int} (h : tickOk x c p = true) (k : p ≤ x) : tickC x c p = c + 1 := by
  have : ¬ x < p := by omega
  simp [tickC, h, this]
end Go.Proofs.Ytbnmeedmeikepaa
