/-
  Plain mathematics of a heap of entries by their stamps, and of lists that ascend by stamps. No program, no condition.
-/
import Derived.Test.YtbnmeedmeikepaaSmA
namespace Go.Proofs.Ytbnmeedmeikepaa

/-- an entry: its message, its stamp, whether it is final -/
abbrev En := Int × St × Bool

def en0 : En := (0, (0, 0), false)
/-- the entry at a place -/
def atE (xs : List En) (i : Nat) : En := xs.getD i en0

def keyE (xs : List En) (i : Nat) : St := (atE xs i).2.1

theorem atE_get {xs : List En} {i : Nat} {x : En} (h : xs[i]? = some x) : atE xs i = x := by
  unfold atE; rw [List.getD_eq_getElem?_getD, h]; rfl

theorem get_atE {xs : List En} {i : Nat} (h : i < xs.length) : xs[i]? = some (atE xs i) := by
  unfold atE; rw [List.getD_eq_getElem?_getD, List.getElem?_eq_getElem h]; rfl

/-- two places exchanged -/
def swE (xs : List En) (i j : Nat) : List En := (xs.set i (atE xs j)).set j (atE xs i)

theorem swE_len (xs : List En) (i j : Nat) : (swE xs i j).length = xs.length := by simp [swE]

theorem swE_at {xs : List En} {i j : Nat} (hi : i < xs.length) (hj : j < xs.length) (k : Nat) : atE (swE xs i j) k = if k = j then atE xs i else if k = i then atE xs j else atE xs k := by
  unfold swE
  by_cases h1 : k = j
  · subst h1; rw [if_pos rfl]; exact atE_get (by simp [hj])
  · rw [if_neg h1]
    by_cases h2 : k = i
    · subst h2
      rw [if_pos rfl]
      refine atE_get ?_
      have : j ≠ k := fun e => h1 e.symm
      simp [this, hi]
    · rw [if_neg h2]
      have a1 : j ≠ k := fun e => h1 e.symm
      have a2 : i ≠ k := fun e => h2 e.symm
      simp [atE, a1, a2]

theorem swE_perm {xs : List En} {i j : Nat} (hi : i < xs.length) (hj : j < xs.length) : (swE xs i j).Perm xs := by
  have e1 : atE xs i = xs[i] := by simp [atE, hi]
  have e2 : atE xs j = xs[j] := by simp [atE, hj]
  rw [swE, e1, e2]
  exact List.set_set_perm hi hj

/-- a heap of the first n places, but for what stands below i -/
def HpX (xs : List En) (n i : Nat) : Prop :=
  (∀ j, 1 ≤ j → j < n → (j - 1) / 2 ≠ i → ltS (keyE xs j) (keyE xs ((j - 1) / 2)) = false) ∧
  (1 ≤ i → ∀ j, 1 ≤ j → j < n → (j - 1) / 2 = i → ltS (keyE xs j) (keyE xs ((i - 1) / 2)) = false)
/-- a heap of the first n places -/
def Hp (xs : List En) (n : Nat) : Prop := ∀ j, 1 ≤ j → j < n → ltS (keyE xs j) (keyE xs ((j - 1) / 2)) = false

theorem keyE_sw {xs : List En} {i j : Nat} (hi : i < xs.length) (hj : j < xs.length) (k : Nat) : keyE (swE xs i j) k = if k = j then keyE xs i else if k = i then keyE xs j else keyE xs k := by
  unfold keyE
  rw [swE_at hi hj]
  by_cases h1 : k = j
  · rw [if_pos h1, if_pos h1]
  · rw [if_neg h1, if_neg h1]
    by_cases h2 : k = i
    · rw [if_pos h2, if_pos h2]
    · rw [if_neg h2, if_neg h2]

/-- one step down: j is the least of what stands below i, and less than what stands at i -/
theorem HpX.down {xs : List En} {n i j : Nat} (h : HpX xs n i) (hn : n ≤ xs.length) (hj : j < n) (hc : j = 2 * i + 1 ∨ j = 2 * i + 2) (hlt : ltS (keyE xs j) (keyE xs i) = true)
    (hmin : ∀ c, c < n → (c = 2 * i + 1 ∨ c = 2 * i + 2) → ltS (keyE xs c) (keyE xs j) = false) : HpX (swE xs i j) n j := by
  have hi : i < xs.length := by omega
  have hj' : j < xs.length := by omega
  have K := keyE_sw (xs := xs) hi hj'
  refine ⟨fun c hc1 hcn hpc => ?_, fun _ c hc1 hcn hpc => ?_⟩
  · by_cases e1 : c = j
    · subst e1
      have hp : (c - 1) / 2 = i := by omega
      rw [K, if_pos rfl, hp, K, if_neg (by omega), if_pos rfl]
      exact ltS_asymm hlt
    · by_cases e2 : c = i
      · subst e2
        rw [K, if_neg e1, if_pos rfl, K, if_neg (by omega), if_neg (by omega)]
        exact h.2 hc1 j (by omega) hj (by omega)
      · rw [K, if_neg e1, if_neg e2, K, if_neg hpc]
        by_cases e3 : (c - 1) / 2 = i
        · rw [if_pos e3]
          exact hmin c hcn (by omega)
        · rw [if_neg e3]
          exact h.1 c hc1 hcn e3
  · have e1 : c ≠ j := by omega
    have e2 : c ≠ i := by omega
    have hp : (j - 1) / 2 = i := by omega
    rw [hp, K, if_neg e1, if_neg e2, K, if_neg (by omega), if_pos rfl]
    have := h.1 c hc1 hcn (by omega)
    rw [hpc] at this
    exact this
/-- nothing below i is less -/
theorem HpX.stop {xs : List En} {n i : Nat} (h : HpX xs n i) (hmin : ∀ c, c < n → (c = 2 * i + 1 ∨ c = 2 * i + 2) → ltS (keyE xs c) (keyE xs i) = false) : Hp xs n := fun c hc1 hcn => by
  by_cases e : (c - 1) / 2 = i
  · rw [e]; exact hmin c hcn (by omega)
  · exact h.1 c hc1 hcn e

theorem Hp.least {xs : List En} {n : Nat} (h : Hp xs n) : ∀ k, k < n → ltS (keyE xs k) (keyE xs 0) = false := by
  intro k
  induction k using Nat.strongRecOn with
  | ind k ih =>
    intro hk
    rcases Nat.eq_zero_or_pos k with e | e
    · subst e; exact ltS_irr _
    · exact ltS_ntrans (h k e hk) (ih ((k - 1) / 2) (by omega) (by omega))

theorem Hp.swapOut {xs : List En} {n : Nat} (h : Hp xs (n + 1)) (hl : xs.length = n + 1) : HpX (swE xs 0 n) n 0 := by
  refine ⟨fun j h1 h2 h3 => ?_, fun h => absurd h (by omega)⟩
  rw [keyE_sw (by omega) (by omega), keyE_sw (by omega) (by omega), if_neg (by omega), if_neg (by omega), if_neg (by omega), if_neg (by omega)]
  exact h j h1 (by omega)

theorem keyE_take {xs : List En} {n k : Nat} (h : k < n) : keyE (xs.take n) k = keyE xs k := by
  unfold keyE atE
  rw [List.getD_eq_getElem?_getD, List.getD_eq_getElem?_getD, List.getElem?_take_of_lt h]

theorem Hp.take {xs : List En} {n : Nat} (h : Hp xs n) : Hp (xs.take n) n := fun j h1 h2 => by
  rw [keyE_take h2, keyE_take (by omega)]; exact h j h1 h2

/-! ### lists that ascend -/
def AscE (xs : List En) : Prop := xs.Pairwise fun a b => ltS a.2.1 b.2.1 = true

theorem AscE.key {xs : List En} (h : AscE xs) {i j : Nat} (hij : i < j) (hj : j < xs.length) : ltS (keyE xs i) (keyE xs j) = true := by
  have := List.pairwise_iff_getElem.1 h i j (by omega) hj hij
  have hi : i < xs.length := by omega
  simpa [keyE, atE, hi, hj] using this

theorem AscE.hp {xs : List En} (h : AscE xs) : Hp xs xs.length := fun j h1 h2 => ltS_asymm (h.key (by omega) h2)

theorem AscE.set {xs : List En} (h : AscE xs) {k : Nat} {x : En} (hk : k < xs.length) (hx : ltS x.2.1 (keyE xs k) = false) : HpX (xs.set k x) xs.length k ∧ (1 ≤ k → ltS x.2.1 (keyE xs ((k - 1) / 2)) = false) := by
  have K : ∀ j, keyE (xs.set k x) j = if j = k then x.2.1 else keyE xs j := fun j => by
    unfold keyE
    by_cases e : j = k
    · subst e; rw [if_pos rfl, atE_get (x := x) (by simp [hk])]
    · rw [if_neg e]
      have : k ≠ j := fun h => e h.symm
      simp [atE, this]
  have hlow : ∀ j, j < k → ltS x.2.1 (keyE xs j) = false := fun j hj => ltS_ntrans hx (ltS_asymm (h.key hj hk))
  refine ⟨⟨fun j h1 h2 h3 => ?_, fun hk1 j h1 h2 h3 => ?_⟩, fun h1 => hlow _ (by omega)⟩
  · rw [K, K, if_neg h3]
    by_cases e : j = k
    · subst e; rw [if_pos rfl]; exact hlow _ (by omega)
    · rw [if_neg e]; exact ltS_asymm (h.key (by omega) h2)
  · rw [K, K, if_neg (by omega), if_neg (by omega)]
    exact ltS_asymm (h.key (by omega) h2)

theorem AscE.snoc {xs : List En} (h : AscE xs) {x : En} (hx : ∀ e ∈ xs, ltS e.2.1 x.2.1 = true) : AscE (xs ++ [x]) := by
  unfold AscE
  rw [List.pairwise_append]
  exact ⟨h, List.pairwise_singleton _ _, fun a ha b hb => by rw [List.mem_singleton.1 hb]; exact hx a ha⟩

/-- a heap of the entries of an ascending list has the first of them at its head -/
theorem Hp.head {xs S : List En} {s : En} (h : Hp xs xs.length) (hp : xs.Perm (s :: S)) (hS : AscE (s :: S)) : atE xs 0 = s := by
  have hl : 0 < xs.length := by rw [hp.length_eq]; simp
  have hs : s ∈ xs := hp.mem_iff.2 (by simp)
  obtain ⟨k, hk, e⟩ := List.getElem_of_mem hs
  have h1 := h.least k hk
  have h2 : atE xs 0 ∈ s :: S := hp.mem_iff.1 (by have e0 : atE xs 0 = xs[0] := by simp [atE, hl]
                                                  rw [e0]; exact List.getElem_mem hl)
  rcases List.mem_cons.1 h2 with h3 | h3
  · exact h3
  · have h4 := (List.pairwise_cons.1 hS).1 _ h3
    have e2 : keyE xs k = s.2.1 := by rw [← e]; simp [keyE, atE, hk]
    rw [e2] at h1
    have h5 : ltS s.2.1 (keyE xs 0) = true := h4
    rw [h5] at h1; cases h1
/-- what is left when the head is taken off -/
theorem pop_perm {xs ys S : List En} {s : En} {n : Nat} (hl : xs.length = n + 1) (hp : xs.Perm (s :: S)) (hy : ys.Perm (swE xs 0 n)) (hyn : atE ys n = s) : (ys.take n).Perm S := by
  have hyl : ys.length = n + 1 := by rw [hy.length_eq, swE_len, hl]
  have e : ys = ys.take n ++ [s] := by
    have hn : n < ys.length := by omega
    have h1 : ys.take (n + 1) = ys := List.take_of_length_le (by omega)
    have h2 : ys.take (n + 1) = ys.take n ++ [ys[n]] := by rw [List.take_add_one, List.getElem?_eq_getElem hn]; rfl
    have h3 : ys[n] = s := by rw [← hyn]; simp [atE, hn]
    exact h1.symm.trans (h2.trans (by rw [h3]))
  have h4 : ys.Perm (s :: S) := (hy.trans (swE_perm (by omega) (by omega))).trans hp
  rw [e] at h4
  have h5 : (s :: ys.take n).Perm (s :: S) := (List.perm_append_comm (l₁ := [s]) (l₂ := ys.take n)).trans h4
  exact (List.perm_cons s).1 h5
end Go.Proofs.Ytbnmeedmeikepaa
