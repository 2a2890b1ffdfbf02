/-
  Several of my texts in one: SmA GmA GmB SmB SmC SmD SmE Mm. No condition.
-/
import Derived.Test.YtbgkinaoelicnaaMgB

namespace Go.Proofs.Ytbgkinaoelicnaa

/-- a stamp: its time and its group -/
abbrev St := Int × Int

def ltS (a b : St) : Bool := lexB a.1 a.2 b.1 b.2

def okS (a : St) : Bool := stB a.1 a.2

def mxS (x y : St) : St := if ltS x y then y else x
/-- the greatest one, x at first -/
def mxL (x : St) (l : List St) : St := l.foldl mxS x

def maxOk (l : List St) : Bool := decide (1 ≤ l.length) && (decide (l.length ≤ 12) && l.all okS)

def maxR (l : List St) : St := if maxOk l then mxL (l.headD (0, 0)) l.tail else (0, 0)

theorem ltS_irr (a : St) : ltS a a = false := lexB_irr _ _

theorem ltS_asymm {a b : St} (h : ltS a b = true) : ltS b a = false := lexB_asymm h

theorem ltS_tot {a b : St} (h : ltS a b = false) (k : ltS b a = false) : a = b := by
  obtain ⟨h1, h2⟩ := lexB_tot h k
  exact Prod.ext h1 h2

theorem ltS_trans {a b c : St} (h : ltS a b = true) (k : ltS b c = true) : ltS a c = true := lexB_trans h k

theorem ltS_ntrans {a b c : St} (h : ltS a b = false) (k : ltS b c = false) : ltS a c = false := lexB_ntrans h k

theorem mxS_yes {x y : St} (h : ltS x y = true) : mxS x y = y := by simp [mxS, h]

theorem mxS_no {x y : St} (h : ltS x y = false) : mxS x y = x := by simp [mxS, h]

theorem mxS_ge1 (x y : St) : ltS (mxS x y) x = false := by
  cases h : ltS x y with
  | true => rw [mxS_yes h]; exact ltS_asymm h
  | false => rw [mxS_no h]; exact ltS_irr x

theorem mxS_ge2 (x y : St) : ltS (mxS x y) y = false := by
  cases h : ltS x y with
  | true => rw [mxS_yes h]; exact ltS_irr y
  | false => rw [mxS_no h]; exact h

theorem mxL_ge1 (x : St) (l : List St) : ltS (mxL x l) x = false := by
  induction l generalizing x with
  | nil => exact ltS_irr x
  | cons y l ih => exact ltS_ntrans (ih (mxS x y)) (mxS_ge1 x y)

theorem mxL_ge {x : St} {l : List St} {y : St} (h : y ∈ l) : ltS (mxL x l) y = false := by
  induction l generalizing x with
  | nil => cases h
  | cons z l ih =>
    rcases List.mem_cons.1 h with rfl | h
    · exact ltS_ntrans (mxL_ge1 (mxS x y) l) (mxS_ge2 x y)
    · exact ih h

theorem mxL_mem (x : St) (l : List St) : mxL x l = x ∨ mxL x l ∈ l := by
  induction l generalizing x with
  | nil => exact .inl rfl
  | cons y l ih =>
    rcases ih (mxS x y) with h | h
    · show mxL (mxS x y) l = x ∨ _
      rw [h]
      cases e : ltS x y with
      | true => rw [mxS_yes e]; exact .inr (by show mxL (mxS x y) l ∈ _; rw [h, mxS_yes e]; exact List.mem_cons_self)
      | false => rw [mxS_no e]; exact .inl rfl
    · exact .inr (List.mem_cons_of_mem _ h)

theorem mxL_skip {x : St} {l : List St} (h : ∀ y ∈ l, ltS x y = false) : mxL x l = x := by
  induction l with
  | nil => rfl
  | cons y l ih =>
    show mxL (mxS x y) l = x
    rw [mxS_no (h y List.mem_cons_self)]
    exact ih fun z hz => h z (List.mem_cons_of_mem _ hz)

theorem mxL_app (x : St) (l m : List St) : mxL x (l ++ m) = mxL (mxL x l) m := by simp [mxL, List.foldl_append]

theorem mxL_snoc (x : St) (l : List St) (y : St) : mxL x (l ++ [y]) = mxS (mxL x l) y := by simp [mxL, List.foldl_append]
/-- a jump to the next greater one -/
theorem mxL_jump {x y : St} {l m : List St} (h : ∀ z ∈ l, ltS x z = false) (k : ltS x y = true) : mxL x (l ++ y :: m) = mxL y m := by
  rw [mxL_app, mxL_skip h]
  show mxL (mxS x y) m = _
  rw [mxS_yes k]

theorem maxOk_true {l : List St} : maxOk l = true ↔ (1 ≤ l.length ∧ l.length ≤ 12 ∧ ∀ x ∈ l, okS x = true) := by
  simp [maxOk]

theorem maxOk_bad {l : List St} {k : Nat} {x : St} (hx : l[k]? = some x) (h : okS x = false) : maxOk l = false := by
  have hm := List.mem_of_getElem? hx
  rw [← Bool.not_eq_true, maxOk_true]
  intro ⟨_, _, h3⟩
  have := h3 x hm
  rw [h] at this; cases this

theorem maxOk_len {l : List St} (h : l.length < 1 ∨ 12 < l.length) : maxOk l = false := by
  rw [← Bool.not_eq_true, maxOk_true]; omega

theorem maxOk_all {l : List St} (h : ∀ (k : Nat) (x : St), l[k]? = some x → okS x = true) (h1 : 1 ≤ l.length) (h2 : l.length ≤ 12) : maxOk l = true :=
  maxOk_true.2 ⟨h1, h2, fun x hx => by
    obtain ⟨k, hk⟩ := List.getElem?_of_mem hx
    exact h k x hk⟩

theorem maxR_no {l : List St} (h : maxOk l = false) : maxR l = (0, 0) := by simp [maxR, h]

theorem maxR_yes {l : List St} (h : maxOk l = true) : maxR l = mxL (l.headD (0, 0)) l.tail := by simp [maxR, h]
/-- what makes the greatest one -/
theorem maxR_mem {l : List St} (h : maxOk l = true) : maxR l ∈ l := by
  rw [maxR_yes h]
  cases l with
  | nil => simp [maxOk] at h
  | cons x l =>
    rcases mxL_mem x l with e | e
    · show mxL x l ∈ _; rw [e]; exact List.mem_cons_self
    · exact List.mem_cons_of_mem _ e

theorem maxR_ge {l : List St} (h : maxOk l = true) {y : St} (hy : y ∈ l) : ltS (maxR l) y = false := by
  rw [maxR_yes h]
  cases l with
  | nil => cases hy
  | cons x l =>
    rcases List.mem_cons.1 hy with rfl | hy
    · exact mxL_ge1 _ _
    · exact mxL_ge hy

theorem maxOk_rev {l m : List St} (hl : m.length = l.length) (hm : ∀ x, x ∈ m ↔ x ∈ l) : maxOk m = maxOk l := by
  rw [Bool.eq_iff_iff, maxOk_true, maxOk_true, hl]
  simp only [hm]

theorem maxR_same {l m : List St} (h : maxOk l = true) (hl : m.length = l.length) (hm : ∀ x, x ∈ m ↔ x ∈ l) : maxR m = maxR l := by
  have k : maxOk m = true := by rw [maxOk_rev hl hm]; exact h
  exact ltS_tot (maxR_ge k ((hm _).2 (maxR_mem h))) (maxR_ge h ((hm _).1 (maxR_mem k)))
end Go.Proofs.Ytbgkinaoelicnaa

namespace Go.Proofs.Ytbgkinaoelicnaa

/-- an entry: its message, its stamp, whether it is final -/
abbrev En := Int × St × Bool

def en0 : En := (0, (0, 0), false)
/-- the entry at a place -/
def atE (xs : List En) (i : Nat) : En := xs.getD i en0

def keyE (xs : List En) (i : Nat) : St := (atE xs i).2.1

theorem atE_get {xs : List En} {i : Nat} {x : En} (h : xs[i]? = some x) : atE xs i = x := by
  unfold atE; rw [List.getD_eq_getElem?_getD, h]; rfl

theorem get_atE {xs : List En} {i : Nat} (h : i < xs.length) : xs[i]? = some (atE xs i) := by
  unfold atE; rw [List.getD_eq_getElem?_getD, List.getElem?_eq_getElem h]; rfl

/-- two places exchanged -/
def swE (xs : List En) (i j : Nat) : List En := (xs.set i (atE xs j)).set j (atE xs i)

theorem swE_len (xs : List En) (i j : Nat) : (swE xs i j).length = xs.length := by simp [swE]

theorem swE_at {xs : List En} {i j : Nat} (hi : i < xs.length) (hj : j < xs.length) (k : Nat) : atE (swE xs i j) k = if k = j then atE xs i else if k = i then atE xs j else atE xs k := by
  unfold swE
  by_cases h1 : k = j
  · subst h1; rw [if_pos rfl]; exact atE_get (by simp [hj])
  · rw [if_neg h1]
    by_cases h2 : k = i
    · subst h2
      rw [if_pos rfl]
      refine atE_get ?_
      have : j ≠ k := fun e => h1 e.symm
      simp [this, hi]
    · rw [if_neg h2]
      have a1 : j ≠ k := fun e => h1 e.symm
      have a2 : i ≠ k := fun e => h2 e.symm
      simp [atE, a1, a2]

theorem swE_perm {xs : List En} {i j : Nat} (hi : i < xs.length) (hj : j < xs.length) : (swE xs i j).Perm xs := by
  have e1 : atE xs i = xs[i] := by simp [atE, hi]
  have e2 : atE xs j = xs[j] := by simp [atE, hj]
  rw [swE, e1, e2]
  exact List.set_set_perm hi hj

/-- a heap of the first n places, but for what stands below i -/
def HpX (xs : List En) (n i : Nat) : Prop :=
  (∀ j, 1 ≤ j → j < n → (j - 1) / 2 ≠ i → ltS (keyE xs j) (keyE xs ((j - 1) / 2)) = false) ∧
  (1 ≤ i → ∀ j, 1 ≤ j → j < n → (j - 1) / 2 = i → ltS (keyE xs j) (keyE xs ((i - 1) / 2)) = false)
/-- a heap of the first n places -/
def Hp (xs : List En) (n : Nat) : Prop := ∀ j, 1 ≤ j → j < n → ltS (keyE xs j) (keyE xs ((j - 1) / 2)) = false

theorem keyE_sw {xs : List En} {i j : Nat} (hi : i < xs.length) (hj : j < xs.length) (k : Nat) : keyE (swE xs i j) k = if k = j then keyE xs i else if k = i then keyE xs j else keyE xs k := by
  unfold keyE
  rw [swE_at hi hj]
  by_cases h1 : k = j
  · rw [if_pos h1, if_pos h1]
  · rw [if_neg h1, if_neg h1]
    by_cases h2 : k = i
    · rw [if_pos h2, if_pos h2]
    · rw [if_neg h2, if_neg h2]

/-- one step down: j is the least of what stands below i, and less than what stands at i -/
theorem HpX.down {xs : List En} {n i j : Nat} (h : HpX xs n i) (hn : n ≤ xs.length) (hj : j < n) (hc : j = 2 * i + 1 ∨ j = 2 * i + 2) (hlt : ltS (keyE xs j) (keyE xs i) = true)
    (hmin : ∀ c, c < n → (c = 2 * i + 1 ∨ c = 2 * i + 2) → ltS (keyE xs c) (keyE xs j) = false) : HpX (swE xs i j) n j := by
  have hi : i < xs.length := by omega
  have hj' : j < xs.length := by omega
  have K := keyE_sw (xs := xs) hi hj'
  refine ⟨fun c hc1 hcn hpc => ?_, fun _ c hc1 hcn hpc => ?_⟩
  · by_cases e1 : c = j
    · subst e1
      have hp : (c - 1) / 2 = i := by omega
      rw [K, if_pos rfl, hp, K, if_neg (by omega), if_pos rfl]
      exact ltS_asymm hlt
    · by_cases e2 : c = i
      · subst e2
        rw [K, if_neg e1, if_pos rfl, K, if_neg (by omega), if_neg (by omega)]
        exact h.2 hc1 j (by omega) hj (by omega)
      · rw [K, if_neg e1, if_neg e2, K, if_neg hpc]
        by_cases e3 : (c - 1) / 2 = i
        · rw [if_pos e3]
          exact hmin c hcn (by omega)
        · rw [if_neg e3]
          exact h.1 c hc1 hcn e3
  · have e1 : c ≠ j := by omega
    have e2 : c ≠ i := by omega
    have hp : (j - 1) / 2 = i := by omega
    rw [hp, K, if_neg e1, if_neg e2, K, if_neg (by omega), if_pos rfl]
    have := h.1 c hc1 hcn (by omega)
    rw [hpc] at this
    exact this
/-- nothing below i is less -/
theorem HpX.stop {xs : List En} {n i : Nat} (h : HpX xs n i) (hmin : ∀ c, c < n → (c = 2 * i + 1 ∨ c = 2 * i + 2) → ltS (keyE xs c) (keyE xs i) = false) : Hp xs n := fun c hc1 hcn => by
  by_cases e : (c - 1) / 2 = i
  · rw [e]; exact hmin c hcn (by omega)
  · exact h.1 c hc1 hcn e

theorem Hp.least {xs : List En} {n : Nat} (h : Hp xs n) : ∀ k, k < n → ltS (keyE xs k) (keyE xs 0) = false := by
  intro k
  induction k using Nat.strongRecOn with
  | ind k ih =>
    intro hk
    rcases Nat.eq_zero_or_pos k with e | e
    · subst e; exact ltS_irr _
    · exact ltS_ntrans (h k e hk) (ih ((k - 1) / 2) (by omega) (by omega))

theorem Hp.swapOut {xs : List En} {n : Nat} (h : Hp xs (n + 1)) (hl : xs.length = n + 1) : HpX (swE xs 0 n) n 0 := by
  refine ⟨fun j h1 h2 h3 => ?_, fun h => absurd h (by omega)⟩
  rw [keyE_sw (by omega) (by omega), keyE_sw (by omega) (by omega), if_neg (by omega), if_neg (by omega), if_neg (by omega), if_neg (by omega)]
  exact h j h1 (by omega)

theorem keyE_take {xs : List En} {n k : Nat} (h : k < n) : keyE (xs.take n) k = keyE xs k := by
  unfold keyE atE
  rw [List.getD_eq_getElem?_getD, List.getD_eq_getElem?_getD, List.getElem?_take_of_lt h]

theorem Hp.take {xs : List En} {n : Nat} (h : Hp xs n) : Hp (xs.take n) n := fun j h1 h2 => by
  rw [keyE_take h2, keyE_take (by omega)]; exact h j h1 h2

/-! ### lists that ascend -/
def AscE (xs : List En) : Prop := xs.Pairwise fun a b => ltS a.2.1 b.2.1 = true

theorem AscE.key {xs : List En} (h : AscE xs) {i j : Nat} (hij : i < j) (hj : j < xs.length) : ltS (keyE xs i) (keyE xs j) = true := by
  have := List.pairwise_iff_getElem.1 h i j (by omega) hj hij
  have hi : i < xs.length := by omega
  simpa [keyE, atE, hi, hj] using this

theorem AscE.hp {xs : List En} (h : AscE xs) : Hp xs xs.length := fun j h1 h2 => ltS_asymm (h.key (by omega) h2)

theorem AscE.set {xs : List En} (h : AscE xs) {k : Nat} {x : En} (hk : k < xs.length) (hx : ltS x.2.1 (keyE xs k) = false) : HpX (xs.set k x) xs.length k ∧ (1 ≤ k → ltS x.2.1 (keyE xs ((k - 1) / 2)) = false) := by
  have K : ∀ j, keyE (xs.set k x) j = if j = k then x.2.1 else keyE xs j := fun j => by
    unfold keyE
    by_cases e : j = k
    · subst e; rw [if_pos rfl, atE_get (x := x) (by simp [hk])]
    · rw [if_neg e]
      have : k ≠ j := fun h => e h.symm
      simp [atE, this]
  have hlow : ∀ j, j < k → ltS x.2.1 (keyE xs j) = false := fun j hj => ltS_ntrans hx (ltS_asymm (h.key hj hk))
  refine ⟨⟨fun j h1 h2 h3 => ?_, fun hk1 j h1 h2 h3 => ?_⟩, fun h1 => hlow _ (by omega)⟩
  · rw [K, K, if_neg h3]
    by_cases e : j = k
    · subst e; rw [if_pos rfl]; exact hlow _ (by omega)
    · rw [if_neg e]; exact ltS_asymm (h.key (by omega) h2)
  · rw [K, K, if_neg (by omega), if_neg (by omega)]
    exact ltS_asymm (h.key (by omega) h2)

theorem AscE.snoc {xs : List En} (h : AscE xs) {x : En} (hx : ∀ e ∈ xs, ltS e.2.1 x.2.1 = true) : AscE (xs ++ [x]) := by
  unfold AscE
  rw [List.pairwise_append]
  exact ⟨h, List.pairwise_singleton _ _, fun a ha b hb => by rw [List.mem_singleton.1 hb]; exact hx a ha⟩

/-- a heap of the entries of an ascending list has the first of them at its head -/
theorem Hp.head {xs S : List En} {s : En} (h : Hp xs xs.length) (hp : xs.Perm (s :: S)) (hS : AscE (s :: S)) : atE xs 0 = s := by
  have hl : 0 < xs.length := by rw [hp.length_eq]; simp
  have hs : s ∈ xs := hp.mem_iff.2 (by simp)
  obtain ⟨k, hk, e⟩ := List.getElem_of_mem hs
  have h1 := h.least k hk
  have h2 : atE xs 0 ∈ s :: S := hp.mem_iff.1 (by have e0 : atE xs 0 = xs[0] := by simp [atE, hl]
                                                  rw [e0]; exact List.getElem_mem hl)
  rcases List.mem_cons.1 h2 with h3 | h3
  · exact h3
  · have h4 := (List.pairwise_cons.1 hS).1 _ h3
    have e2 : keyE xs k = s.2.1 := by rw [← e]; simp [keyE, atE, hk]
    rw [e2] at h1
    have h5 : ltS s.2.1 (keyE xs 0) = true := h4
    rw [h5] at h1; cases h1
/-- what is left when the head is taken off -/
theorem pop_perm {xs ys S : List En} {s : En} {n : Nat} (hl : xs.length = n + 1) (hp : xs.Perm (s :: S)) (hy : ys.Perm (swE xs 0 n)) (hyn : atE ys n = s) : (ys.take n).Perm S := by
  have hyl : ys.length = n + 1 := by rw [hy.length_eq, swE_len, hl]
  have e : ys = ys.take n ++ [s] := by
    have hn : n < ys.length := by omega
    have h1 : ys.take (n + 1) = ys := List.take_of_length_le (by omega)
    have h2 : ys.take (n + 1) = ys.take n ++ [ys[n]] := by rw [List.take_add_one, List.getElem?_eq_getElem hn]; rfl
    have h3 : ys[n] = s := by rw [← hyn]; simp [atE, hn]
    exact h1.symm.trans (h2.trans (by rw [h3]))
  have h4 : ys.Perm (s :: S) := (hy.trans (swE_perm (by omega) (by omega))).trans hp
  rw [e] at h4
  have h5 : (s :: ys.take n).Perm (s :: S) := (List.perm_append_comm (l₁ := [s]) (l₂ := ys.take n)).trans h4
  exact (List.perm_cons s).1 h5
end Go.Proofs.Ytbgkinaoelicnaa

namespace Go.Proofs.Ytbgkinaoelicnaa

/-- a group: its number, its clock, what is pending, what is done -/
structure Gp where
  id : Int
  ck : Int
  P : List En
  D : List En

def gp0 : Gp := ⟨0, 0, [], []⟩

def msB (m : Int) : Bool := inB m 0 11
/-- may the group have the entry, whatever others it has? -/
def okE (id ck : Int) (e : En) : Bool := msB e.1 && okS e.2.1 && decide (e.2.1.1 ≤ ck) && (e.2.2 || decide (e.2.1.2 = id))

theorem okE_true {id ck : Int} {e : En} : okE id ck e = true ↔ (msB e.1 = true ∧ okS e.2.1 = true ∧ e.2.1.1 ≤ ck ∧ (e.2.2 = true ∨ e.2.1.2 = id)) := by
  simp [okE, and_assoc]

abbrev relE (a b : En) : Prop := ltS a.2.1 b.2.1 = true ∧ a.1 ≠ b.1

theorem rel_asc {l : List En} (h : l.Pairwise relE) : AscE l := h.imp fun h => h.1

/-- a list of entries that may stand in a group -/
def LsOk (id ck : Int) (l : List En) : Prop := (∀ e ∈ l, okE id ck e = true) ∧ l.Pairwise relE

instance (id ck : Int) (l : List En) : Decidable (LsOk id ck l) := inferInstanceAs (Decidable (_ ∧ _))

def lsB (id ck : Int) (l : List En) : Bool := decide (LsOk id ck l)

theorem lsB_true {id ck : Int} {l : List En} : lsB id ck l = true ↔ LsOk id ck l := by simp [lsB]

theorem LsOk.nil (id ck : Int) : LsOk id ck [] := ⟨(fun e h => by cases h), List.Pairwise.nil⟩

theorem LsOk.left {id ck : Int} {l m : List En} (h : LsOk id ck (l ++ m)) : LsOk id ck l := ⟨fun e he => h.1 e (List.mem_append_left _ he), (List.pairwise_append.1 h.2).1⟩
/-- one entry more: it is looked at alone, against the last, and for its message -/
theorem LsOk.snoc {id ck : Int} {l : List En} {x : En} : LsOk id ck (l ++ [x]) ↔ (LsOk id ck l ∧ okE id ck x = true ∧ (∀ y, l.getLast? = some y → ltS y.2.1 x.2.1 = true) ∧ ∀ y ∈ l, y.1 ≠ x.1) := by
  constructor
  · intro h
    have hp := List.pairwise_append.1 h.2
    exact ⟨h.left, h.1 x (by simp), fun y hy => (hp.2.2 y (List.mem_of_getLast? hy) x (by simp)).1, fun y hy => (hp.2.2 y hy x (by simp)).2⟩
  · rintro ⟨h, hx, hl, hm⟩
    refine ⟨fun e he => ?_, List.pairwise_append.2 ⟨h.2, List.pairwise_singleton _ _, fun a ha b hb => ?_⟩⟩
    · rcases List.mem_append.1 he with he | he
      · exact h.1 e he
      · rw [List.mem_singleton.1 he]; exact hx
    · rw [List.mem_singleton.1 hb]
      refine ⟨?_, hm a ha⟩
      rcases List.eq_nil_or_concat l with e | ⟨l', y, e⟩
      · rw [e] at ha; cases ha
      · have e : l = l' ++ [y] := by rw [e]; simp
        have hy := hl y (by rw [e]; simp)
        rw [e] at ha
        rcases List.mem_append.1 ha with ha | ha
        · have := h.2
          rw [e] at this
          exact ltS_trans ((List.pairwise_append.1 this).2.2 a ha y (by simp)).1 hy
        · rw [List.mem_singleton.1 ha]; exact hy

/-- a valid group -/
def Vd (g : Gp) : Prop := grB g.id = true ∧ 0 ≤ g.ck ∧ g.ck ≤ 999 ∧ LsOk g.id g.ck (g.D ++ g.P) ∧ (∀ e ∈ g.D, e.2.2 = true) ∧ (g.P.head?.all fun e => !e.2.2) = true

instance (g : Gp) : Decidable (Vd g) := inferInstanceAs (Decidable (_ ∧ _))

def vdB (g : Gp) : Bool := decide (Vd g)

theorem vdB_true {g : Gp} : vdB g = true ↔ Vd g := by simp [vdB]

theorem vdB_false {g : Gp} : vdB g = false ↔ ¬ Vd g := by simp [vdB]

theorem head_final {g : Gp} {e : En} {l : List En} (h : Vd g) (hP : g.P = e :: l) : e.2.2 = false := by
  have := h.2.2.2.2.2
  rw [hP] at this
  simpa using this

theorem Vd.P {g : Gp} (h : Vd g) : LsOk g.id g.ck g.P := ⟨fun e he => h.2.2.2.1.1 e (List.mem_append_right _ he), (List.pairwise_append.1 h.2.2.2.1.2).2.1⟩

theorem Vd.D {g : Gp} (h : Vd g) : LsOk g.id g.ck g.D := h.2.2.2.1.left

theorem Vd.ascP {g : Gp} (h : Vd g) : AscE g.P := rel_asc h.P.2

/-- what the model looks at -/
theorem Vd_model {g : Gp} : Vd g ↔ (grB g.id = true ∧ 0 ≤ g.ck ∧ g.ck ≤ 999 ∧ LsOk g.id g.ck g.P ∧ LsOk g.id g.ck g.D ∧ (∀ e ∈ g.D, e.2.2 = true ∧ ∀ p ∈ g.P, p.1 ≠ e.1) ∧
    (∀ p l, g.P = p :: l → p.2.2 = false ∧ ∀ d, g.D.getLast? = some d → ltS d.2.1 p.2.1 = true)) := by
  constructor
  · intro h
    have hp := List.pairwise_append.1 h.2.2.2.1.2
    refine ⟨h.1, h.2.1, h.2.2.1, h.P, h.D, fun e he => ⟨h.2.2.2.2.1 e he, fun p hp2 he2 => (hp.2.2 e he p hp2).2 he2.symm⟩, fun p l hl => ⟨head_final h hl, fun d hd => ?_⟩⟩
    exact (hp.2.2 d (List.mem_of_getLast? hd) p (by rw [hl]; simp)).1
  · rintro ⟨h1, h2, h3, hP, hD, hf, hh⟩
    refine ⟨h1, h2, h3, ⟨fun e he => ?_, List.pairwise_append.2 ⟨hD.2, hP.2, fun a ha b hb => ⟨?_, fun e => (hf a ha).2 b hb e.symm⟩⟩⟩, fun e he => (hf e he).1, ?_⟩
    · rcases List.mem_append.1 he with he | he
      · exact hD.1 e he
      · exact hP.1 e he
    · cases hPc : g.P with
      | nil => rw [hPc] at hb; cases hb
      | cons p l =>
        rcases List.eq_nil_or_concat g.D with e | ⟨D', y, e⟩
        · rw [e] at ha; cases ha
        · have e : g.D = D' ++ [y] := by rw [e]; simp
          have hy := (hh p l hPc).2 y (by rw [e]; simp)
          have hay : ltS a.2.1 y.2.1 = true ∨ a = y := by
            rw [e] at ha
            rcases List.mem_append.1 ha with ha | ha
            · have := hD.2
              rw [e] at this
              exact .inl ((List.pairwise_append.1 this).2.2 a ha y (by simp)).1
            · exact .inr (List.mem_singleton.1 ha)
          have hap : ltS a.2.1 p.2.1 = true := by
            rcases hay with h | h
            · exact ltS_trans h hy
            · rw [h]; exact hy
          rw [hPc] at hb
          rcases List.mem_cons.1 hb with hb | hb
          · rw [hb]; exact hap
          · have := hP.2
            rw [hPc] at this
            exact ltS_trans hap ((List.pairwise_cons.1 this).1 b hb).1
    · cases hPc : g.P with
      | nil => rfl
      | cons p l => simp [(hh p l hPc).1]

/-! ### the entry of a message -/
/-- the place of a message in a list; the length, if there is none -/
def pla (l : List En) (m : Int) : Nat := l.findIdx fun e => e.1 == m

theorem pla_le (l : List En) (m : Int) : pla l m ≤ l.length := List.findIdx_le_length
/-- as the model says it -/
def plI (l : List En) (m : Int) : Int := if pla l m < l.length then (pla l m : Int) else -1

theorem plI_hit {l : List En} {m : Int} {k : Nat} {x : En} (hx : l[k]? = some x) (hm : x.1 = m) (hlow : ∀ j y, j < k → l[j]? = some y → y.1 ≠ m) : pla l m = k ∧ plI l m = k := by
  obtain ⟨hk, e⟩ := List.getElem?_eq_some_iff.1 hx
  have h : pla l m = k := by
    unfold pla
    rw [List.findIdx_eq hk]
    refine ⟨by rw [e]; simp [hm], fun j hj => ?_⟩
    have hjl : j < l.length := by omega
    have := hlow j l[j] hj (List.getElem?_eq_getElem hjl)
    simpa using this
  exact ⟨h, by unfold plI; rw [h, if_pos hk]⟩

theorem plI_miss {l : List En} {m : Int} (h : ∀ e ∈ l, e.1 ≠ m) : pla l m = l.length ∧ plI l m = -1 := by
  have h1 : pla l m = l.length := by
    unfold pla
    rw [List.findIdx_eq_length]
    intro e he
    have := h e he
    simpa using this
  exact ⟨h1, by unfold plI; rw [h1, if_neg (by omega)]⟩

theorem pla_cases (l : List En) (m : Int) : (∃ (k : Nat) (x : En), pla l m = k ∧ plI l m = k ∧ k < l.length ∧ l[k]? = some x ∧ x.1 = m ∧ ∀ j y, j < k → l[j]? = some y → y.1 ≠ m) ∨ (pla l m = l.length ∧ plI l m = -1 ∧ ∀ e ∈ l, e.1 ≠ m) := by
  by_cases h : pla l m < l.length
  · left
    have h1 : ((l[pla l m]).1 == m) = true := by
      unfold pla at h ⊢
      exact List.findIdx_getElem (xs := l) (p := fun e : En => e.1 == m) (w := h)
    refine ⟨pla l m, l[pla l m], rfl, by unfold plI; rw [if_pos h], h, List.getElem?_eq_getElem h, by simpa using h1, fun j y hj hy => ?_⟩
    obtain ⟨hjl, e⟩ := List.getElem?_eq_some_iff.1 hy
    have h2 := List.not_of_lt_findIdx (xs := l) (p := fun e => e.1 == m) hj
    rw [← e]
    simpa using h2
  · right
    have hall : ∀ e ∈ l, e.1 ≠ m := by
      intro e he hm
      have := List.findIdx_lt_length_of_exists (p := fun e : En => e.1 == m) (xs := l) ⟨e, he, by simp [hm]⟩
      exact h this
    exact ⟨(plI_miss hall).1, (plI_miss hall).2, hall⟩

/-! ### what the functions answer -/
/-- the answer to a proposal, in any group -/
def prA (g : Gp) (m : Int) : Gp × St × Bool :=
  if plI g.P m ≥ 0 ∧ (atE g.P (pla g.P m)).2.2 = false then (g, (atE g.P (pla g.P m)).2.1, true)
  else if plI g.P m ≥ 0 ∨ plI g.D m ≥ 0 ∨ g.ck ≥ 999 then (g, (0, 0), false)
  else (⟨g.id, g.ck + 1, g.P ++ [(m, (g.ck + 1, g.id), false)], g.D⟩, (g.ck + 1, g.id), true)

def prR (g : Gp) (m : Int) : Gp × St × Bool := if vdB g && msB m then prA g m else (gp0, (0, 0), false)

theorem mem_while {p : En → Bool} : ∀ {l : List En} {e : En}, e ∈ l.takeWhile p → p e = true
  | [], e, h => by cases h
  | x :: l, e, h => by
    cases hx : p x with
    | false => simp [hx] at h
    | true =>
      rw [List.takeWhile_cons_of_pos hx] at h
      rcases List.mem_cons.1 h with h | h
      · rw [h]; exact hx
      · exact mem_while h
/-- how many at the head are less than a stamp -/
def cnt (l : List En) (s : St) : Nat := (l.takeWhile fun e => ltS e.2.1 s).length

theorem cnt_le (l : List En) (s : St) : cnt l s ≤ l.length := by
  unfold cnt
  exact List.IsPrefix.length_le (List.takeWhile_prefix _)

theorem cnt_is {l : List En} {s : St} {n : Nat} (hn : n ≤ l.length) (hlow : ∀ j y, j < n → l[j]? = some y → ltS y.2.1 s = true) (hst : ∀ y, l[n]? = some y → ltS y.2.1 s = false) : cnt l s = n := by
  induction l generalizing n with
  | nil => simp at hn; subst hn; rfl
  | cons x l ih =>
    cases n with
    | zero =>
      have := hst x (by simp)
      simp [cnt, this]
    | succ n =>
      have h0 := hlow 0 x (by omega) (by simp)
      have := ih (n := n) (by simpa using hn) (fun j y hj hy => hlow (j + 1) y (by omega) (by simpa using hy)) (fun y hy => hst y (by simpa using hy))
      unfold cnt at this ⊢
      simp [h0, this]
/-- the others -/
def rst (l : List En) (m : Int) : List En := l.take (pla l m) ++ l.drop (pla l m + 1)
/-- the list with the final stamp in its place -/
def ins (l : List En) (m : Int) (s : St) : List En := (rst l m).take (cnt (rst l m) s) ++ [(m, s, true)] ++ (rst l m).drop (cnt (rst l m) s)

def fiOk (g : Gp) (m : Int) (s : St) : Bool :=
  decide (plI g.P m ≥ 0) && !(atE g.P (pla g.P m)).2.2 && !ltS s (atE g.P (pla g.P m)).2.1 && !(decide (cnt (rst g.P m) s < (rst g.P m).length) && decide (keyE (rst g.P m) (cnt (rst g.P m) s) = s))

def tld (l : List En) : List En := l.takeWhile fun e => e.2.2

def lft (l : List En) : List En := l.dropWhile fun e => e.2.2

def msgs (l : List En) : List Int := l.map fun e => e.1
/-- the answer to a final stamp, in any group -/
def fiA (g : Gp) (m : Int) (s : St) : Gp × List Int × Bool :=
  if fiOk g m s then (⟨g.id, max g.ck s.1, lft (ins g.P m s), g.D ++ tld (ins g.P m s)⟩, msgs (tld (ins g.P m s)), true) else (g, [], false)

def fiR (g : Gp) (m : Int) (s : St) : Gp × List Int × Bool := if vdB g && (msB m && okS s) then fiA g m s else (gp0, [], false)
/-- the entry of a message: pending first -/
def stA (g : Gp) (m : Int) : En × Bool :=
  if plI g.P m ≥ 0 then (atE g.P (pla g.P m), true) else if plI g.D m ≥ 0 then (atE g.D (pla g.D m), true) else (en0, false)

def stR (g : Gp) (m : Int) : En × Bool := if vdB g then stA g m else (en0, false)

def blR (g : Gp) : Int := if vdB g then (match g.P with | [] => -1 | e :: _ => e.1) else -1

def trR (g : Gp) : List Int := if vdB g then msgs g.D else []

def nwR (id : Int) : Gp × Bool := if grB id then (⟨id, 0, [], []⟩, true) else (gp0, false)

/-! ### a final stamp among others -/
theorem rst_perm {l : List En} {m : Int} {k : Nat} (hk : pla l m = k) (hl : k < l.length) : l.Perm (atE l k :: rst l m) := by
  have e1 : l = l.take k ++ l[k] :: l.drop (k + 1) := by
    rw [List.getElem_cons_drop]; exact (List.take_append_drop k l).symm
  have e2 : atE l k = l[k] := by simp [atE, hl]
  rw [rst, hk, e2]
  have : (l.take k ++ l[k] :: l.drop (k + 1)).Perm (l[k] :: (l.take k ++ l.drop (k + 1))) := List.perm_middle
  rwa [← e1] at this

theorem set_perm {l : List En} {m : Int} {k : Nat} (hk : pla l m = k) (hl : k < l.length) (x : En) : (l.set k x).Perm (x :: rst l m) := by
  have e : l.set k x = l.take k ++ x :: l.drop (k + 1) := List.set_eq_take_append_cons_drop .. |>.trans (by rw [if_pos hl])
  rw [e, rst, hk]
  exact List.perm_middle

theorem ins_perm (l : List En) (m : Int) (s : St) : (ins l m s).Perm ((m, s, true) :: rst l m) := by
  unfold ins
  have h := List.perm_middle (a := ((m, s, true) : En)) (l₁ := (rst l m).take (cnt (rst l m) s)) (l₂ := (rst l m).drop (cnt (rst l m) s))
  rw [List.take_append_drop] at h
  simpa using h

theorem rst_sub (l : List En) (m : Int) : (rst l m).Sublist l := by
  unfold rst
  have h : l = l.take (pla l m) ++ l.drop (pla l m) := (List.take_append_drop _ _).symm
  have h2 : (l.drop (pla l m + 1)).Sublist (l.drop (pla l m)) := by
    rw [← List.drop_drop]; exact List.drop_sublist _ _
  have h3 := List.Sublist.append (List.Sublist.refl (l.take (pla l m))) h2
  rw [← h] at h3
  exact h3

theorem rst_asc {l : List En} (h : AscE l) (m : Int) : AscE (rst l m) := h.sublist (rst_sub l m)

theorem cnt_low {l : List En} {s : St} : ∀ e ∈ l.take (cnt l s), ltS e.2.1 s = true := by
  intro e he
  have h1 : l.take (cnt l s) = l.takeWhile fun e => ltS e.2.1 s := by
    unfold cnt
    exact (List.prefix_iff_eq_take.1 (List.takeWhile_prefix _)).symm
  rw [h1] at he
  exact mem_while (p := fun e : En => ltS e.2.1 s) he

theorem cnt_at {l : List En} {s : St} (h : cnt l s < l.length) : ltS (keyE l (cnt l s)) s = false := by
  induction l with
  | nil => simp at h
  | cons x l ih =>
    cases hx : ltS x.2.1 s with
    | false =>
      have : cnt (x :: l) s = 0 := by simp [cnt, hx]
      rw [this]; exact hx
    | true =>
      have e : cnt (x :: l) s = cnt l s + 1 := by simp [cnt, hx]
      rw [e] at h ⊢
      have := ih (by simpa using h)
      simpa [keyE, atE] using this

theorem ins_asc {l : List En} (h : AscE l) (m : Int) (s : St) (hne : ∀ e ∈ rst l m, e.2.1 ≠ s) : AscE (ins l m s) := by
  have hr := rst_asc h m
  have hlow := cnt_low (l := rst l m) (s := s)
  have hhigh : ∀ e ∈ (rst l m).drop (cnt (rst l m) s), ltS s e.2.1 = true := by
    intro e he
    obtain ⟨j, hj, e1⟩ := List.getElem_of_mem he
    rw [List.getElem_drop] at e1
    rw [List.length_drop] at hj
    have hc := cnt_at (l := rst l m) (s := s) (by omega)
    have hmem : e ∈ rst l m := List.mem_of_mem_drop he
    have hk : ltS e.2.1 s = false := by
      rcases Nat.eq_zero_or_pos j with e0 | e0
      · have : keyE (rst l m) (cnt (rst l m) s) = e.2.1 := by
          subst e0; rw [← e1]; simp [keyE, atE]
          rw [List.getElem?_eq_getElem (by omega)]; rfl
        rw [← this]; exact hc
      · have h2 := hr.key (i := cnt (rst l m) s) (j := cnt (rst l m) s + j) (by omega) (by omega)
        have h3 : keyE (rst l m) (cnt (rst l m) s + j) = e.2.1 := by
          rw [← e1]; simp [keyE, atE]
          rw [List.getElem?_eq_getElem (by omega)]; rfl
        rw [h3] at h2
        exact ltS_ntrans (ltS_asymm h2) hc
    cases h4 : ltS s e.2.1 with
    | true => rfl
    | false => exact absurd (ltS_tot hk h4) (hne e hmem)
  unfold ins AscE
  rw [List.append_assoc, List.pairwise_append]
  refine ⟨List.Pairwise.sublist (List.take_sublist _ _) hr, ?_, ?_⟩
  · rw [List.singleton_append, List.pairwise_cons]
    exact ⟨fun e he => hhigh e he, List.Pairwise.sublist (List.drop_sublist _ _) hr⟩
  · intro a ha b hb
    rcases List.mem_append.1 hb with hb | hb
    · rw [List.mem_singleton.1 hb]; exact hlow a ha
    · exact ltS_trans (hlow a ha) (hhigh b hb)
/-- in an ascending list: the stamp is taken or not, as the model finds out -/
theorem tkn {l : List En} (h : AscE l) (m : Int) (s : St) : (cnt (rst l m) s < (rst l m).length ∧ keyE (rst l m) (cnt (rst l m) s) = s) ↔ ∃ e ∈ rst l m, e.2.1 = s := by
  constructor
  · rintro ⟨h1, h2⟩
    exact ⟨atE (rst l m) (cnt (rst l m) s), by simp [atE, h1], h2⟩
  · rintro ⟨e, he, hs⟩
    obtain ⟨j, hj, e1⟩ := List.getElem_of_mem he
    have hc : cnt (rst l m) s = j := by
      refine cnt_is (by omega) (fun i y hi hy => ?_) (fun y hy => ?_)
      · have h2 := (rst_asc h m).key hi hj
        have h3 : keyE (rst l m) i = y.2.1 := by rw [keyE, atE_get hy]
        have h4 : keyE (rst l m) j = s := by rw [← hs, ← e1]; simp [keyE, atE, hj]
        rw [h3, h4] at h2; exact h2
      · have : y = e := by rw [List.getElem?_eq_getElem hj, e1] at hy; injection hy with hy; exact hy.symm
        rw [this, hs]; exact ltS_irr _
    refine ⟨by omega, ?_⟩
    rw [hc, ← hs, ← e1]; simp [keyE, atE, hj]
end Go.Proofs.Ytbgkinaoelicnaa

namespace Go.Proofs.Ytbgkinaoelicnaa
open Go.RowKit

/-- '.slice A n c' reads as the stamps zs -/
def RdS (w : World) (A : Option Addr) (n : Nat) (zs : List St) : Prop :=
  zs.length = n ∧ (0 < n → ∃ b off, A = some ⟨b, off, none⟩ ∧ b < w.heap.size ∧
    ∀ j x, zs[j]? = some x → w.cell? ⟨b, off + j * 2, none⟩ = some (.int .i64 x.1) ∧ w.cell? ⟨b, off + j * 2 + 1, none⟩ = some (.int .i64 x.2))

theorem RdS.below {w w' : World} {A : Option Addr} {n : Nat} {zs : List St} (h : RdS w A n zs) (hb : Below w.heap.size w w') : RdS w' A n zs :=
  ⟨h.1, fun hn => by
    obtain ⟨b, off, e, hl, hc⟩ := h.2 hn
    exact ⟨b, off, e, Nat.lt_of_lt_of_le hl hb.size, fun j x hx => ⟨(hb.cell hl).trans (hc j x hx).1, (hb.cell hl).trans (hc j x hx).2⟩⟩⟩

theorem RdS.at_ {w : World} {A : Option Addr} {n k : Nat} {zs : List St} (h : RdS w A n zs) (hk : k < n) :
    ∃ b off t g, A = some ⟨b, off, none⟩ ∧ Hid (zs[k]? = some (t, g)) ∧ b < w.heap.size ∧ w.cell? ⟨b, off + k * 2, none⟩ = some (.int .i64 t) ∧ w.cell? ⟨b, off + k * 2 + 1, none⟩ = some (.int .i64 g) := by
  obtain ⟨b, off, e, hl, hc⟩ := h.2 (by omega)
  have hlen : k < zs.length := by rw [h.1]; exact hk
  have hx : zs[k]? = some zs[k] := List.getElem?_eq_getElem hlen
  exact ⟨b, off, zs[k].1, zs[k].2, e, hx, hl, (hc k _ hx).1, (hc k _ hx).2⟩

theorem RdS.len {w : World} {A : Option Addr} {n : Nat} {zs : List St} (h : RdS w A n zs) : zs.length = n := h.1

theorem take_tail_succ {zs : List St} {k : Nat} {x : St} (hk : 1 ≤ k) (hx : zs[k]? = some x) : (zs.take (k + 1)).tail = (zs.take k).tail ++ [x] := by
  rw [List.take_add_one, hx]
  cases zs with
  | nil => simp at hx
  | cons z l =>
    obtain ⟨k', rfl⟩ : ∃ k', k = k' + 1 := ⟨k - 1, by omega⟩
    simp

end Go.Proofs.Ytbgkinaoelicnaa

namespace Go.Proofs.Ytbgkinaoelicnaa
open Go.RowKit

abbrev MaxPost (zs : List St) (w : World) : Ending → World → Prop := fun e w' => e = .returned (.tuple #[two (maxR zs).1 (maxR zs).2, .bool (maxOk zs)]) ∧ Below w.heap.size w w'

/-- the first place at which the function holds, or none -/
def IdxPost (m : St) (zs : List St) (w : World) (e : Ending) (w' : World) : Prop :=
  Below w.heap.size w w' ∧ ((∃ (k : Nat) (x : St), e = .returned (.int .i64 k) ∧ zs[k]? = some x ∧ ltS m x = true ∧ ∀ (j : Nat) (y : St), j < k → zs[j]? = some y → ltS m y = false) ∨
    (e = .returned (.int .i64 (-1)) ∧ ∀ (j : Nat) (y : St), zs[j]? = some y → ltS m y = false))

end Go.Proofs.Ytbgkinaoelicnaa

namespace Go.Proofs.Ytbgkinaoelicnaa
open Go.RowKit

theorem RdS.drop {w : World} {b off n k : Nat} {zs : List St} (h : RdS w (some ⟨b, off, none⟩) n zs) (hk : k ≤ n) : RdS w (some ⟨b, off + k * 2, none⟩) (n - k) (zs.drop k) := by
  refine ⟨by rw [List.length_drop, h.1], fun hn => ?_⟩
  obtain ⟨b', off', e, hl, hc⟩ := h.2 (by omega)
  injection e with e
  injection e with e1 e2
  subst e1; subst e2
  refine ⟨b, off + k * 2, rfl, hl, fun j x hx => ?_⟩
  rw [List.getElem?_drop] at hx
  have := hc _ x hx
  rw [show off + k * 2 + j * 2 = off + (k + j) * 2 by omega]
  exact this

theorem RdS.empty {w : World} {A A' : Option Addr} {n : Nat} {zs : List St} (h : RdS w A n zs) (k : Nat) (hk : n ≤ k) : RdS w A' 0 (zs.drop k) := by
  refine ⟨?_, fun h => absurd h (by omega)⟩
  rw [List.length_drop, h.1]; omega

def slLen : Value → Nat
  | .slice _ n _ => n
  | _ => 0

theorem tail_drop {zs : List St} {j : Nat} (hj : 1 ≤ j) : (zs.take j).tail ++ zs.drop j = zs.tail := by
  cases zs with
  | nil => simp
  | cons z l =>
    obtain ⟨j, rfl⟩ : ∃ i, j = i + 1 := ⟨j - 1, by omega⟩
    simp

theorem max_step {zs : List St} {j k : Nat} {m x z0 : St} (hj : 1 ≤ j) (hm : m = mxL z0 (zs.take j).tail) (hx : (zs.drop j)[k]? = some x) (hl : ltS m x = true) (hall : ∀ (i : Nat) (y : St), i < k → (zs.drop j)[i]? = some y → ltS m y = false) :
    x = mxL z0 (zs.take (j + (k + 1))).tail := by
  have e : (zs.take (j + (k + 1))).tail = (zs.take j).tail ++ ((zs.drop j).take k ++ [x]) := by
    have h1 : (zs.drop j).take (k + 1) = (zs.drop j).take k ++ [x] := by rw [List.take_add_one, hx]; rfl
    rw [← h1]
    cases zs with
    | nil => simp at hx
    | cons z l =>
      obtain ⟨j, rfl⟩ : ∃ i, j = i + 1 := ⟨j - 1, by omega⟩
      rw [show j + 1 + (k + 1) = j + (k + 1) + 1 by omega]
      simp [List.take_add]
  rw [e, mxL_app, ← hm, mxL_jump (fun y hy => ?_) hl]
  · rfl
  · obtain ⟨i, hi⟩ := List.getElem?_of_mem hy
    have hi2 : i < k := by
      have := (List.getElem?_eq_some_iff.1 hi).1
      rw [List.length_take] at this; omega
    rw [List.getElem?_take_of_lt hi2] at hi
    exact hall i y hi2 hi

theorem max_end {zs : List St} {j : Nat} {m z0 : St} (hj : 1 ≤ j) (hm : m = mxL z0 (zs.take j).tail) (hall : ∀ (i : Nat) (y : St), (zs.drop j)[i]? = some y → ltS m y = false) : m = mxL z0 zs.tail := by
  rw [← tail_drop hj, mxL_app, ← hm, mxL_skip]
  intro y hy
  obtain ⟨i, hi⟩ := List.getElem?_of_mem hy
  exact hall i y hi

/-- a slice from l on: its address where nothing is left is not looked at -/
theorem slice_from (A : Option Addr) (n c l : Nat) (x : Int) (hx : x = (l : Int)) (hl : l ≤ n) :
    ∃ A', (∀ W, (Instr.sliceAt 57 (.slice A n c) (some (.int .i64 x)) none none).run Try.prog W = .ok (.slice A' (n - l) (c - l)) W) ∧ (n ≤ c → ∀ w zs, RdS w A n zs → RdS w A' (n - l) (zs.drop l)) := by
  subst hx
  refine ⟨if c = l then A else A.map (·.add (l * 2)), fun W => ?_, fun hnc w zs h => ?_⟩
  · rw [run_sliceAt_slice (P := Try.prog) W 57 _ _ _ _ (by kernel_rfl), run_slice_l (P := Try.prog) W 57 _ _ _ (by kernel_rfl) _ _ (by omega) (by omega)]
    rw [show (sizeOf (Try.prog.elem 57)).run Try.prog W = .ok 2 W from by kernel_rfl]
    simp [Result.andThen, sliced]
  · by_cases e : c = l
    · rw [if_pos e]
      have : n - l = 0 := by omega
      rw [this]
      exact h.empty l (by omega)
    · rw [if_neg e]
      by_cases hn : n = 0
      · subst hn
        rw [Nat.zero_sub]
        exact h.empty l (by omega)
      · obtain ⟨b, off, rfl, _⟩ := h.2 (by omega)
        have e2 : (some (⟨b, off, none⟩ : Addr)).map (·.add (l * 2)) = some ⟨b, off + l * 2, none⟩ := by
          simp [Addr.add]
        rw [e2]
        exact h.drop hl

end Go.Proofs.Ytbgkinaoelicnaa

namespace Go.Proofs.Ytbgkinaoelicnaa
open Go.RowKit

theorem info_st : (Try.prog.info? 38).map (fun i => (i.zero, i.size, i.bytes)) = some (some (.agg #[.int .i64 0, .int .i64 0]), 2, 16) := by kernel_rfl
/-- the cells of a list of stamps -/
def stc : List St → List Value
  | [] => []
  | x :: l => .int .i64 x.1 :: .int .i64 x.2 :: stc l

theorem stc_len (l : List St) : (stc l).length = l.length * 2 := by
  induction l with
  | nil => rfl
  | cons x l ih => simp [stc, ih]; omega

theorem stc_app (l m : List St) : stc (l ++ m) = stc l ++ stc m := by
  induction l with
  | nil => rfl
  | cons x l ih => simp [stc, ih]

theorem stc_one (l : List St) : ∀ u ∈ stc l, u.oneCell' = true := by
  induction l with
  | nil => intro u hu; cases hu
  | cons x l ih =>
    intro u hu
    rcases List.mem_cons.1 hu with rfl | hu
    · rfl
    · rcases List.mem_cons.1 hu with rfl | hu
      · rfl
      · exact ih u hu

theorem stc_get : ∀ (l : List St) (j : Nat) (x : St), l[j]? = some x → (stc l)[j * 2]? = some (.int .i64 x.1) ∧ (stc l)[j * 2 + 1]? = some (.int .i64 x.2)
  | [], j, x, h => by simp at h
  | y :: l, 0, x, h => by simp at h; subst h; exact ⟨rfl, rfl⟩
  | y :: l, j + 1, x, h => by
    have := stc_get l j x (by simpa using h)
    rw [show (j + 1) * 2 = j * 2 + 1 + 1 by omega]
    exact this

/-- v is a slice of stamps of the call's own -/
abbrev OwS (w : World) (B : Nat) (v : Value) (zs : List St) : Prop := w.ownsRow B 38 2 v zs.length (stc zs)
section
variable {w w' : World} {B B' : Nat} {v : Value} {zs : List St}

theorem OwS.form (h : OwS w B v zs) : ∃ A c, v = .slice A zs.length c ∧ RdS w A zs.length zs ∧ zs.length ≤ c ∧ c ≤ 9223372036854775807 := by
  rcases h.2 with ⟨rfl, h0⟩ | ⟨g, cap, cur, rfl, hb, hh, hn, hm, hs, ht⟩
  · have hz : zs = [] := List.eq_nil_of_length_eq_zero h0
    subst hz
    exact ⟨none, 0, rfl, ⟨rfl, fun h => absurd h (by simp)⟩, Nat.le_refl _, by omega⟩
  · refine ⟨_, cap, rfl, ⟨rfl, fun _ => ⟨g, 0, rfl, (h.lt g rfl).2, fun j x hx => ?_⟩⟩, hn, by unfold maxLen at hm; omega⟩
    have hx2 := stc_get zs j x hx
    have e0 := h.cells (g := g) rfl (j * 2) _ hx2.1
    have e1 := h.cells (g := g) rfl (j * 2 + 1) _ hx2.2
    have a0 : ∀ k, (⟨g, 0, none⟩ : Addr).add k = ⟨g, 0 + k, none⟩ := fun k => by
      unfold Addr.add; by_cases hk : k = 0
      · subst hk; rfl
      · simp [hk]
    rw [a0] at e0 e1
    exact ⟨e0, by rw [Nat.add_assoc]; exact e1⟩

theorem OwS.of_block (h : OwS w B v zs) (hb : ∀ g, v.ownBlock = some g → w'.heap[g]? = w.heap[g]?) : OwS w' B v zs := by
  refine ⟨h.1, ?_⟩
  rcases h.2 with hn | ⟨g, cap, cur, e, hl, hg, hr⟩
  · exact .inl hn
  · exact .inr ⟨g, cap, cur, e, hl, (hb g (by rw [e]; rfl)).trans hg, hr⟩

theorem OwS.below (h : OwS w B v zs) (hb : Below w.heap.size w w') : OwS w' B v zs := h.of_block fun g hg => hb.block g (h.lt g hg).2

theorem OwS.pick {g : Nat} (h : OwS w B v zs) (hg : w.grownBy w' (some g)) (hl : g < B) : OwS w' B v zs :=
  h.of_block fun k hk => hg.block k (h.lt k hk).2 (fun e => by
    have e' : k = g := by injection e
    have := (h.lt k hk).1
    omega)

theorem OwS.more (h : OwS w B v zs) (hB : B' ≤ B) : OwS w B' v zs := by
  refine ⟨h.1, ?_⟩
  rcases h.2 with hn | ⟨g, cap, cur, e, hb, hr⟩
  · exact .inl hn
  · exact .inr ⟨g, cap, cur, e, Nat.le_trans hB hb, hr⟩

theorem OwS.empty_lit (w : World) (hB : B ≤ w.heap.size) : OwS (w.alloc (.cells #[] 38)) B (.slice (some ⟨w.heap.size, 0, none⟩) 0 0) [] :=
  World.ownsRow_lit w #[] 0 hB (by decide) rfl
end

/-- One append of one stamp: 'out = append(out, x)'. The literal's block lies already. -/
theorem wpList_appSt {w : World} {ops : Array Oper} {rest : List Oper} {o : Oper} {a : Act} {Q : Exit → Act → World → Prop} (hgd : o.guard = none) (s x : Operand)
    (ho : o.op = .call { callee := .builtin .append, args := #[s, x], argTypes := #[57, 57] })
    (B : Nat) (t k : Int) (v : Value) (zs : List St) (hs : a.eval s = v) (hx : a.eval x = .slice (some ⟨w.heap.size, 0, none⟩) 1 1) (hown : OwS w B v zs) (hB : B ≤ w.heap.size) (hn : zs.length < 1099511627776)
    (h : ∀ v' w', OwS w' B v' (zs ++ [(t, k)]) → Below B w w' → wpList Try.prog ops Q rest (a.put o.dst v') w') :
    wpList Try.prog ops Q (o :: rest) a (w.alloc (.cells #[.int .i64 t, .int .i64 k] 38)) := by
  obtain ⟨i0, hi, hz0, hz1, hz2⟩ := info_parts info_st
  refine wpList_append_own (P := Try.prog) _ hgd s x 57 ho B 38 i0 (.agg #[.int .i64 0, .int .i64 0]) 2 16 Try.underlying57 hi hz0 hz1 hz2 rfl (by decide) v zs.length (stc zs) hs (hown.alloc _) ⟨w.heap.size, 0, none⟩ 1 1 [.int .i64 t, .int .i64 k] hx rfl ?_ ?_ ?_ ?_ ?_ ?_
  · intro j u hj
    match j, hj with
    | 0, hj => simp at hj; subst hj; simp [Addr.add]
    | 1, hj => simp at hj; subst hj; simp [Addr.add]
  · intro u hu; simp at hu; rcases hu with rfl | rfl <;> rfl
  · unfold maxLen; omega
  · omega
  · simp; omega
  · intro v' w' hown' hg _
    refine h v' w' ?_ ?_
    · show w'.ownsRow B 38 2 v' (zs ++ [(t, k)]).length (stc (zs ++ [(t, k)]))
      rw [stc_app, List.length_append]
      exact hown'
    · exact ((Below.refl B w).alloc hB _).grown hg (by simp; omega) (fun k hk => (hown.lt k hk).1)

end Go.Proofs.Ytbgkinaoelicnaa

namespace Go.Proofs.Ytbgkinaoelicnaa
open Go.RowKit
set_option linter.unusedVariables false

/-- of the blocks that lie already only those of S may turn -/
structure Kp (S : Nat → Prop) (w w' : World) : Prop where
  os : w'.os = w.os
  tape : w'.tape = w.tape
  output : w'.output = w.output
  size : w.heap.size ≤ w'.heap.size
  block : ∀ k, k < w.heap.size → ¬ S k → w'.heap[k]? = w.heap[k]?
section
variable {S S' : Nat → Prop} {w w' w'' : World}

theorem Kp.refl (S : Nat → Prop) (w : World) : Kp S w w := ⟨rfl, rfl, rfl, Nat.le_refl _, fun _ _ _ => rfl⟩

theorem Kp.of_below (h : Below w.heap.size w w') : Kp S w w' := ⟨h.os, h.tape, h.output, h.size, fun k hk _ => h.block k hk⟩

theorem Kp.trans (h : Kp S w w') (k : Kp S' w' w'') (hS : ∀ i, i < w.heap.size → S' i → S i) : Kp S w w'' :=
  ⟨k.os.trans h.os, k.tape.trans h.tape, k.output.trans h.output, Nat.le_trans h.size k.size, fun i h1 h2 => (k.block i (Nat.lt_of_lt_of_le h1 h.size) (fun h3 => h2 (hS i h1 h3))).trans (h.block i h1 h2)⟩

theorem Kp.then (h : Kp S w w') (k : Kp S w' w'') : Kp S w w'' := h.trans k fun _ _ h => h

theorem Kp.mono (h : Kp S w w') (hS : ∀ i, S i → S' i) : Kp S' w w' := ⟨h.os, h.tape, h.output, h.size, fun i h1 h2 => h.block i h1 (fun h3 => h2 (hS i h3))⟩

theorem Kp.below_ (h : Kp S w w') (k : Below w'.heap.size w' w'') : Kp S w w'' := h.then (Kp.of_below k)

theorem Kp.alloc (h : Kp S w w') (o : Obj) : Kp S w (w'.alloc o) := h.below_ (below1 w' o)

theorem Kp.drew (h : Kp S w w') : Kp S w w'.drew := ⟨h.os, h.tape, h.output, h.size, h.block⟩

theorem Kp.drewN (h : Kp S w w') (n : Nat) : Kp S w (w'.drewN n) := ⟨h.os, h.tape, h.output, h.size, h.block⟩

theorem Kp.setCell (h : Kp S w w') {p : Addr} (hp : w.heap.size ≤ p.block ∨ S p.block) (u : Value) : Kp S w (w'.setCell p u) :=
  ⟨h.os, h.tape, h.output, by rw [show (w'.setCell p u).heap.size = w'.heap.size by simp [World.setCell]]; exact h.size, fun i h1 h2 => (Below.heap_setCell w' p u i (fun e => by
    subst e
    rcases hp with hp | hp
    · omega
    · exact h2 hp)).trans (h.block i h1 h2)⟩

theorem Kp.grown (h : Kp S w w') {row : Option Nat} (hg : w'.grownBy w'' row) (hr : ∀ k, row = some k → w.heap.size ≤ k ∨ S k) : Kp S w w'' :=
  ⟨hg.os.trans h.os, hg.tape.trans h.tape, hg.output.trans h.output, Nat.le_trans h.size hg.size, fun i h1 h2 => (hg.block i (Nat.lt_of_lt_of_le h1 h.size) (fun e => by
    rcases hr i e.symm with h3 | h3
    · omega
    · exact h2 h3)).trans (h.block i h1 h2)⟩

theorem Kp.base {B : Nat} (h : Kp S w w') (hB : B ≤ w.heap.size) (hS : ∀ i, S i → B ≤ i) : Below B w w' :=
  ⟨h.os, h.tape, h.output, h.size, fun k hk => h.block k (by omega) (fun h => by have := hS k h; omega)⟩

theorem Kp.cell (h : Kp S w w') {p : Addr} (h1 : p.block < w.heap.size) (h2 : ¬ S p.block) : w'.cell? p = w.cell? p := World.cell?_of_block (h.block _ h1 h2)
end

/-- a block that is known whole -/
def Cs (w : World) (b : Nat) (T : TypeId) (cs : Array Value) : Prop := w.heap[b]? = some (.cells cs T (0, 0))
section
variable {S : Nat → Prop} {w w' : World} {b : Nat} {T : TypeId} {cs : Array Value}

theorem Cs.lt (h : Cs w b T cs) : b < w.heap.size := (Array.getElem?_eq_some_iff.1 h).1

theorem Cs.cell (h : Cs w b T cs) (i : Nat) : w.cell? ⟨b, i, none⟩ = cs[i]? := cell_of_row w b i _ _ (0, 0) h

theorem Cs.frozen (h : Cs w b T cs) (i : Nat) : w.frozen? ⟨b, i, none⟩ = false := frozen_of_row w b i _ _ h

theorem Cs.new (w : World) (T : TypeId) (cs : Array Value) : Cs (w.alloc (.cells cs T)) w.heap.size T cs := heap_alloc_new w _

theorem Cs.set (h : Cs w b T cs) (i : Nat) (u : Value) : Cs (w.setCell ⟨b, i, none⟩ u) b T (cs.setIfInBounds i u) := by
  unfold Cs; rw [heap_setCell_same w b i _ _ _ h]

theorem Cs.kp (h : Cs w b T cs) (hk : Kp S w w') (hb : ¬ S b) : Cs w' b T cs := (hk.block b h.lt hb).trans h

theorem Cs.below {B : Nat} (h : Cs w b T cs) (hk : Below B w w') (hB : b < B) : Cs w' b T cs := (hk.block b hB).trans h

theorem Cs.step (h : Cs w b T cs) (hk : Below w.heap.size w w') : Cs w' b T cs := h.below hk h.lt

theorem Cs.alloc (h : Cs w b T cs) (o : Obj) : Cs (w.alloc o) b T cs := h.step (below1 w o)

theorem Cs.drew (h : Cs w b T cs) : Cs w.drew b T cs := h

theorem Cs.far (h : Cs w b T cs) {p : Addr} (hne : b ≠ p.block) (u : Value) : Cs (w.setCell p u) b T cs := (Below.heap_setCell w p u b hne).trans h
end

/-- a block of one cell -/
def Bx (w : World) (b : Nat) (T : TypeId) (v : Value) : Prop := w.heap[b]? = some (.cells #[v] T (0, 0))
section
variable {S : Nat → Prop} {w w' : World} {b : Nat} {T : TypeId} {v u : Value}

theorem Bx.lt (h : Bx w b T v) : b < w.heap.size := (Array.getElem?_eq_some_iff.1 h).1

theorem Bx.cell (h : Bx w b T v) : w.cell? ⟨b, 0, none⟩ = some v := by rw [cell_of_row w b 0 _ _ (0, 0) h]; rfl

theorem Bx.frozen (h : Bx w b T v) : w.frozen? ⟨b, 0, none⟩ = false := frozen_of_row w b 0 _ _ h

theorem Bx.new (w : World) (T : TypeId) (v : Value) : Bx (w.alloc (.cells #[v] T)) w.heap.size T v := heap_alloc_new w _

theorem Bx.set (h : Bx w b T v) (u : Value) : Bx (w.setCell ⟨b, 0, none⟩ u) b T u := by
  unfold Bx; rw [heap_setCell_same w b 0 _ _ _ h]; rfl

theorem Bx.kp (h : Bx w b T v) (hk : Kp S w w') (hb : ¬ S b) : Bx w' b T v := (hk.block b h.lt hb).trans h

theorem Bx.below (h : Bx w b T v) (hk : Below w.heap.size w w') : Bx w' b T v := (hk.block b h.lt).trans h

theorem Bx.drew (h : Bx w b T v) : Bx w.drew b T v := h

theorem Bx.far (h : Bx w b T v) {p : Addr} (hne : b ≠ p.block) (u : Value) : Bx (w.setCell p u) b T v := (Below.heap_setCell w p u b hne).trans h
end

theorem Cs.new' (w : World) (T : TypeId) (cs : Array Value) {b : Nat} (h : w.heap.size = b) : Cs (w.alloc (.cells cs T)) b T cs := by subst h; exact Cs.new w T cs

theorem Cs.four {w : World} {b : Nat} {T : TypeId} {a0 a1 a2 a3 : Value} (h : Cs w b T #[a0, a1, a2, a3]) :
    w.cell? ⟨b, 0, none⟩ = some a0 ∧ w.cell? ⟨b, 1, none⟩ = some a1 ∧ w.cell? ⟨b, 2, none⟩ = some a2 ∧ w.cell? ⟨b, 3, none⟩ = some a3 := ⟨h.cell 0, h.cell 1, h.cell 2, h.cell 3⟩

theorem Cs.free4 {w : World} {b : Nat} {T : TypeId} {cs : Array Value} (h : Cs w b T cs) :
    w.frozen? ⟨b, 0, none⟩ = false ∧ w.frozen? ⟨b, 1, none⟩ = false ∧ w.frozen? ⟨b, 2, none⟩ = false ∧ w.frozen? ⟨b, 3, none⟩ = false := ⟨h.frozen 0, h.frozen 1, h.frozen 2, h.frozen 3⟩
section
variable {S : Nat → Prop} {w w' w'' : World}

theorem Kp.set2 (h : Kp S w w') {b : Nat} (hb : S b) (u0 u1 : Value) : Kp S w ((w'.setCell ⟨b, 0, none⟩ u0).setCell ⟨b, 1, none⟩ u1) := (h.setCell (.inr hb) _).setCell (.inr hb) _

theorem Cs.two {b : Nat} {T : TypeId} {a0 a1 : Value} (h : Cs w b T #[a0, a1]) : w.cell? ⟨b, 0, none⟩ = some a0 ∧ w.cell? ⟨b, 1, none⟩ = some a1 ∧ w.frozen? ⟨b, 0, none⟩ = false ∧ w.frozen? ⟨b, 1, none⟩ = false := ⟨h.cell 0, h.cell 1, h.frozen 0, h.frozen 1⟩
end

/-- a world in which all that lay in W still lies -/
structure BW (W : World) where
  wd : World
  below : Below W.heap.size W wd

instance (W : World) : Nonempty (BW W) := ⟨⟨W, Below.refl _ _⟩⟩
section
variable {W : World}

theorem BW.cell (x : BW W) {b off : Nat} {v : Value} (h : W.cell? ⟨b, off, none⟩ = some v) : x.wd.cell? ⟨b, off, none⟩ = some v :=
  (x.below.cell (p := ⟨b, off, none⟩) (World.block_lt_of_cell? W _ h)).trans h

theorem BW.call {P : Program} {f : FuncId} {args : Array Value} {v : Value} (x : BW W) (h : Calls P f args x.wd fun e w' => e = .returned v ∧ Below x.wd.heap.size x.wd w') :
    Calls P f args x.wd fun e w'' => e = .returned v ∧ ∃ y : BW W, w'' = y.wd :=
  h.mono fun _ w' ⟨he, hb⟩ => ⟨he, ⟨w', x.below.trans (hb.mono x.below.size)⟩, rfl⟩

theorem BW.same {P : Program} {f : FuncId} {args : Array Value} {v : Value} (x : BW W) (h : Calls P f args x.wd fun e w' => e = .returned v ∧ x.wd = w') :
    Calls P f args x.wd fun e w'' => e = .returned v ∧ ∃ y : BW W, w'' = y.wd :=
  h.mono fun _ _ ⟨he, hw⟩ => ⟨he, x, hw.symm⟩

theorem wpQuiet_mono {P : Program} {ops : Array Oper} {C : World → Prop} {Q Q' : Act → Prop} (h : ∀ a, Q a → Q' a) : ∀ (l : List Oper) (a : Act), wpQuiet P ops C Q l a → wpQuiet P ops C Q' l a
  | [], _, k => h _ k
  | o :: l, a, k => by
    unfold wpQuiet at k ⊢
    split
    · rename_i hw
      rw [if_pos hw] at k
      exact Oper.quiet_mono (fun a => wpQuiet_mono h l a) k
    · rename_i hw
      rw [if_neg hw] at k
      exact wpQuiet_mono h l _ k

theorem wp_region_below {P : Program} {id : Nat} {Q : Exit → Act → World → Prop} {a : Act} {l : List Oper} (hm : P.follows .mixedOrders = true) (hB : Region.lexB .any l.toArray = true)
    (h : wpQuiet P l.toArray (fun w' => ∃ x : BW W, w' = x.wd) (fun a' => ∀ w', Below W.heap.size W w' → Q .normal a' w') l a) : (Code.region id l.toArray true).wp P Q a W :=
  wp_region_quiet (C := fun w' => ∃ x : BW W, w' = x.wd) hm hB ⟨⟨W.drew, (Below.refl _ _).drew⟩, rfl⟩ (wpQuiet_mono (fun a' h w' ⟨x, e⟩ => by subst e; exact h _ x.below) _ _ (by simpa using h))
end

set_option maxHeartbeats 400000 in
theorem messageExists_any (n : Int) (w : World) :
    Calls Try.prog 38 #[.int .i64 n] w fun e w' => e = .returned (.bool (msB n)) ∧ w = w' := by
  go_enter Try.func38, Try.ntmps38
  go_wp2
  all_goals go_ret
  · exact ⟨ret_bool (by simp [msB, inB, *]; omega), rfl⟩
  · exact ⟨ret_bool (by simp [msB, inB, *]; omega), rfl⟩

set_option maxHeartbeats 400000 in
theorem l11Message_any (n : Int) (w : World) :
    Calls Try.prog 31 #[.int .i64 n] w fun e w' => e = .returned (.bool (msB n)) ∧ w = w' := by
  go_enter Try.func31, Try.ntmps31
  go_wp2_with (go_at_call 19; (with_reducible refine (l6In_any _ _ _ _).mono ?_); rintro e w' ⟨rfl, rfl⟩)
  go_ret
  exact ⟨rfl, rfl⟩


/-- rows of different types lie in different blocks -/
theorem own_type {w : World} {lo lo' n m s1 s2 : Nat} {t1 t2 : TypeId} {v u : Value} {xs ys : List Value} (h : w.ownsRow lo t1 s1 v n xs) (k : w.ownsRow lo' t2 s2 u m ys) (hne : t1 ≠ t2) : ∀ b, v.ownBlock = some b → u.ownBlock ≠ some b := by
  intro b hb hc
  rcases h.2 with ⟨rfl, _⟩ | ⟨g, cap, cur, rfl, _, hg, _⟩
  · cases hb
  · rcases k.2 with ⟨rfl, _⟩ | ⟨g2, cap2, cur2, rfl, _, hg2, _⟩
    · cases hc
    · injection hb with hb
      injection hc with hc
      simp only at hb hc
      subst hb; subst hc
      rw [hg] at hg2
      injection hg2 with e
      injection e with _ e2
      exact hne e2

theorem cs_type {w : World} {lo n s1 b : Nat} {t1 t2 : TypeId} {v : Value} {xs : List Value} {cs : Array Value} (k : Cs w b t2 cs) (h : w.ownsRow lo t1 s1 v n xs) (hne : t1 ≠ t2) : v.ownBlock ≠ some b := by
  intro hb
  rcases h.2 with ⟨rfl, _⟩ | ⟨g, cap, cur, rfl, _, hg, _⟩
  · cases hb
  · injection hb with hb
    simp only at hb
    subst hb
    unfold Cs at k
    rw [hg] at k
    injection k with e
    injection e with _ e2
    exact hne e2

theorem Lv.kpo {S : Nat → Prop} {w w' : World} {lo hi : Nat} {v : Value} {zs : List Int} (h : Lv w lo hi v zs) (hk : Kp S w w') (hS : ∀ b, v.ownBlock = some b → ¬ S b) : Lv w' lo hi v zs :=
  ⟨⟨own_of_block h.1.1 fun g hg => hk.block g (h.1.1.lt g hg).2 (hS g hg), h.1.2⟩, Nat.le_trans h.2 hk.size⟩

theorem Lv.kp {S : Nat → Prop} {w w' : World} {lo hi : Nat} {v : Value} {zs : List Int} (h : Lv w lo hi v zs) (hk : Kp S w w') (hS : ∀ b, lo ≤ b → b < hi → ¬ S b) : Lv w' lo hi v zs :=
  ⟨⟨own_of_block h.1.1 fun g hg => hk.block g (h.1.1.lt g hg).2 (hS g (h.1.1.lt g hg).1 (h.1.2 g hg)), h.1.2⟩, Nat.le_trans h.2 hk.size⟩

theorem Kp.of_quiet {S : Nat → Prop} {w w' : World} (h : Qt w w') : Kp S w w' := Kp.of_below (h.below _)

theorem Kp.ownI {S : Nat → Prop} {w w' : World} {B : Nat} {v : Value} {zs : List Int} (h : Kp S w w') (ho : OwI w B v zs) (hS : ∀ k, v.ownBlock = some k → ¬ S k) : OwI w' B v zs :=
  own_of_block ho fun g hg => h.block g (ho.lt g hg).2 (hS g hg)

theorem grown_cs {w w' : World} {b : Nat} {T : TypeId} {cs : Array Value} {row : Option Nat} (h : Cs w b T cs) (hg : w.grownBy w' row) (hne : row ≠ some b) : Cs w' b T cs :=
  (hg.block b h.lt (fun e => hne e.symm)).trans h

end Go.Proofs.Ytbgkinaoelicnaa
