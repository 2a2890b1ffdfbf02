/-
  Plain mathematics of lists of stamps: the greatest one. No program.
-/
import Derived.Test.YtbnmeedmeikepaaStA
namespace Go.Proofs.Ytbnmeedmeikepaa

/-- a stamp: its time and its group -/
abbrev St := Int × Int

def ltS (a b : St) : Bool := lexB a.1 a.2 b.1 b.2

def okS (a : St) : Bool := stB a.1 a.2

def mxS (x y : St) : St := if ltS x y then y else x
/-- the greatest one, x at first -/
def mxL (x : St) (l : List St) : St := l.foldl mxS x

def maxOk (l : List St) : Bool := decide (1 ≤ l.length) && (decide (l.length ≤ 12) && l.all okS)

def maxR (l : List St) : St := if maxOk l then mxL (l.headD (0, 0)) l.tail else (0, 0)

theorem ltS_irr (a : St) : ltS a a = false := lexB_irr _ _

theorem ltS_asymm {a b : St} (h : ltS a b = true) : ltS b a = false := lexB_asymm h

theorem ltS_tot {a b : St} (h : ltS a b = false) (k : ltS b a = false) : a = b := by
  obtain ⟨h1, h2⟩ := lexB_tot h k
  exact Prod.ext h1 h2

theorem ltS_trans {a b c : St} (h : ltS a b = true) (k : ltS b c = true) : ltS a c = true := lexB_trans h k

theorem ltS_ntrans {a b c : St} (h : ltS a b = false) (k : ltS b c = false) : ltS a c = false := lexB_ntrans h k

theorem mxS_yes {x y : St} (h : ltS x y = true) : mxS x y = y := by simp [mxS, h]

theorem mxS_no {x y : St} (h : ltS x y = false) : mxS x y = x := by simp [mxS, h]

theorem mxS_ge1 (x y : St) : ltS (mxS x y) x = false := by
  cases h : ltS x y with
  | true => rw [mxS_yes h]; exact ltS_asymm h
  | false => rw [mxS_no h]; exact ltS_irr x

theorem mxS_ge2 (x y : St) : ltS (mxS x y) y = false := by
  cases h : ltS x y with
  | true => rw [mxS_yes h]; exact ltS_irr y
  | false => rw [mxS_no h]; exact h

theorem mxL_ge1 (x : St) (l : List St) : ltS (mxL x l) x = false := by
  induction l generalizing x with
  | nil => exact ltS_irr x
  | cons y l ih => exact ltS_ntrans (ih (mxS x y)) (mxS_ge1 x y)

theorem mxL_ge {x : St} {l : List St} {y : St} (h : y ∈ l) : ltS (mxL x l) y = false := by
  induction l generalizing x with
  | nil => cases h
  | cons z l ih =>
    rcases List.mem_cons.1 h with rfl | h
    · exact ltS_ntrans (mxL_ge1 (mxS x y) l) (mxS_ge2 x y)
    · exact ih h

theorem mxL_mem (x : St) (l : List St) : mxL x l = x ∨ mxL x l ∈ l := by
  induction l generalizing x with
  | nil => exact .inl rfl
  | cons y l ih =>
    rcases ih (mxS x y) with h | h
    · show mxL (mxS x y) l = x ∨ _
      rw [h]
      cases e : ltS x y with
      | true => rw [mxS_yes e]; exact .inr (by show mxL (mxS x y) l ∈ _; rw [h, mxS_yes e]; exact List.mem_cons_self)
      | false => rw [mxS_no e]; exact .inl rfl
    · exact .inr (List.mem_cons_of_mem _ h)

theorem mxL_skip {x : St} {l : List St} (h : ∀ y ∈ l, ltS x y = false) : mxL x l = x := by
  induction l with
  | nil => rfl
  | cons y l ih =>
    show mxL (mxS x y) l = x
    rw [mxS_no (h y List.mem_cons_self)]
    exact ih fun z hz => h z (List.mem_cons_of_mem _ hz)

theorem mxL_app (x : St) (l m : List St) : mxL x (l ++ m) = mxL (mxL x l) m := by simp [mxL, List.foldl_append]

theorem mxL_snoc (x : St) (l : List St) (y : St) : mxL x (l ++ [y]) = mxS (mxL x l) y := by simp [mxL, List.foldl_append]
/-- a jump to the next greater one -/
theorem mxL_jump {x y : St} {l m : List St} (h : ∀ z ∈ l, ltS x z = false) (k : ltS x y = true) : mxL x (l ++ y :: m) = mxL y m := by
  rw [mxL_app, mxL_skip h]
  show mxL (mxS x y) m = _
  rw [mxS_yes k]

theorem maxOk_true {l : List St} : maxOk l = true ↔ (1 ≤ l.length ∧ l.length ≤ 12 ∧ ∀ x ∈ l, okS x = true) := by
  simp [maxOk]

theorem maxOk_bad {l : List St} {k : Nat} {x : St} (hx : l[k]? = some x) (h : okS x = false) : maxOk l = false := by
  have hm := List.mem_of_getElem? hx
  rw [← Bool.not_eq_true, maxOk_true]
  intro ⟨_, _, h3⟩
  have := h3 x hm
  rw [h] at this; cases this

theorem maxOk_len {l : List St} (h : l.length < 1 ∨ 12 < l.length) : maxOk l = false := by
  rw [← Bool.not_eq_true, maxOk_true]; omega

theorem maxOk_all {l : List St} (h : ∀ (k : Nat) (x : St), l[k]? = some x → okS x = true) (h1 : 1 ≤ l.length) (h2 : l.length ≤ 12) : maxOk l = true :=
  maxOk_true.2 ⟨h1, h2, fun x hx => by
    obtain ⟨k, hk⟩ := List.getElem?_of_mem hx
    exact h k x hk⟩

theorem maxR_no {l : List St} (h : maxOk l = false) : maxR l = (0, 0) := by simp [maxR, h]

theorem maxR_yes {l : List St} (h : maxOk l = true) : maxR l = mxL (l.headD (0, 0)) l.tail := by simp [maxR, h]
/-- what makes the greatest one -/
theorem maxR_mem {l : List St} (h : maxOk l = true) : maxR l ∈ l := by
  rw [maxR_yes h]
  cases l with
  | nil => simp [maxOk] at h
  | cons x l =>
    rcases mxL_mem x l with e | e
    · show mxL x l ∈ _; rw [e]; exact List.mem_cons_self
    · exact List.mem_cons_of_mem _ e

theorem maxR_ge {l : List St} (h : maxOk l = true) {y : St} (hy : y ∈ l) : ltS (maxR l) y = false := by
  rw [maxR_yes h]
  cases l with
  | nil => cases hy
  | cons x l =>
    rcases List.mem_cons.1 hy with rfl | hy
    · exact mxL_ge1 _ _
    · exact mxL_ge hy

theorem maxOk_rev {l m : List St} (hl : m.length = l.length) (hm : ∀ x, x ∈ m ↔ x ∈ l) : maxOk m = maxOk l := by
  rw [Bool.eq_iff_iff, maxOk_true, maxOk_true, hl]
  simp only [hm]

theorem maxR_same {l m : List St} (h : maxOk l = true) (hl : m.length = l.length) (hm : ∀ x, x ∈ m ↔ x ∈ l) : maxR m = maxR l := by
  have k : maxOk m = true := by rw [maxOk_rev hl hm]; exact h
  exact ltS_tot (maxR_ge k ((hm _).2 (maxR_mem h))) (maxR_ge h ((hm _).1 (maxR_mem k)))
end Go.Proofs.Ytbnmeedmeikepaa
