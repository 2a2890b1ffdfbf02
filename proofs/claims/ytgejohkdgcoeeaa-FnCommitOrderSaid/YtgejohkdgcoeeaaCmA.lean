/-
  Plain mathematics of committed entries: lengths of copies, how many have as many, majorities, leaders, repair. No program.
-/
import Derived.Test.YtgejohkdgcoeeaaPure
namespace Go.Proofs.Ytgejohkdgcoeeaa

theorem getD_mem {zs : List Int} {i : Nat} (h : i < zs.length) : zs.getD i 0 ∈ zs := by
  have : zs.getD i 0 = zs[i] := by simp [h]
  rw [this]; exact List.getElem_mem h

theorem mem_getD {zs : List Int} {z : Int} (h : z ∈ zs) : ∃ i, i < zs.length ∧ zs.getD i 0 = z := by
  obtain ⟨i, hi, e⟩ := List.getElem_of_mem h
  exact ⟨i, hi, by simp [hi, e]⟩

/-! ### valid lengths -/
def lnB (z : Int) : Bool := inB z 0 99

theorem lnB_true {z : Int} : lnB z = true ↔ (0 ≤ z ∧ z ≤ 99) := inB_true

theorem lnB_false {z : Int} : lnB z = false ↔ (z < 0 ∨ 99 < z) := inB_false

def lvB (zs : List Int) : Bool := inB (zs.length : Int) 1 7 && zs.all lnB

theorem lvB_bad {zs : List Int} {i : Nat} (hi : i < zs.length) (h : lnB (zs.getD i 0) = false) : lvB zs = false := by
  have : zs.all lnB = false := by
    rw [List.all_eq_false]; exact ⟨_, getD_mem hi, by rw [h]; decide⟩
  simp [lvB, this]

theorem lvB_fin {zs : List Int} (h : ∀ i, i < zs.length → lnB (zs.getD i 0) = true) : lvB zs = inB (zs.length : Int) 1 7 := by
  have : zs.all lnB = true := by
    rw [List.all_eq_true]; intro z hz
    obtain ⟨i, hi, e⟩ := mem_getD hz
    rw [← e]; exact h i hi
  simp [lvB, this]

theorem lvB_len {zs : List Int} (h : ¬ (1 ≤ zs.length ∧ zs.length ≤ 7)) : lvB zs = false := by
  have : inB (zs.length : Int) 1 7 = false := by rw [inB_false]; omega
  simp [lvB, this]

theorem lvB_true {zs : List Int} (h : lvB zs = true) : 1 ≤ zs.length ∧ zs.length ≤ 7 ∧ ∀ z ∈ zs, 0 ≤ z ∧ z ≤ 99 := by
  simp only [lvB, Bool.and_eq_true, inB_true, List.all_eq_true, lnB_true] at h
  exact ⟨by omega, by omega, h.2⟩

theorem lvB_of {zs : List Int} (h1 : 1 ≤ zs.length) (h7 : zs.length ≤ 7) (h : ∀ z ∈ zs, 0 ≤ z ∧ z ≤ 99) : lvB zs = true := by
  simp only [lvB, Bool.and_eq_true, inB_true, List.all_eq_true, lnB_true]
  exact ⟨by omega, h⟩

/-! ### how many have at least x -/
def hav (zs : List Int) (x : Int) : Nat := zs.countP (fun z => decide (x ≤ z))

theorem hav_le (zs : List Int) (x : Int) : hav zs x ≤ zs.length := List.countP_le_length

theorem hav_anti {zs : List Int} {x y : Int} (h : x ≤ y) : hav zs y ≤ hav zs x :=
  List.countP_mono_left fun z _ hz => by simp only [decide_eq_true_eq] at *; omega

theorem hav_take_succ {zs : List Int} {k : Nat} {z : Int} (x : Int) (hk : k < zs.length) (hz : zs.getD k 0 = z) : hav (zs.take (k + 1)) x = hav (zs.take k) x + (if x ≤ z then 1 else 0) := by
  have e : zs[k] = z := by rw [← hz]; simp [hk]
  rw [List.take_add_one, List.getElem?_eq_getElem hk, hav, List.countP_append, e]
  by_cases h : x ≤ z <;> simp [h, hav]

theorem hav_perm {xs ys : List Int} (h : xs.Perm ys) (x : Int) : hav xs x = hav ys x := h.countP_eq _

theorem hav_rev (xs : List Int) (x : Int) : hav xs.reverse x = hav xs x := hav_perm (List.reverse_perm xs) x

theorem hav_pos {zs : List Int} {x : Int} (h : ∀ z ∈ zs, x ≤ z) : hav zs x = zs.length := by
  rw [hav, List.countP_eq_length]; intro z hz; simpa using h z hz

theorem hav_zero {zs : List Int} {x : Int} (h : ∀ z ∈ zs, z < x) : hav zs x = 0 := by
  rw [hav, List.countP_eq_zero]; intro z hz; have := h z hz; simp; omega
/-- pointwise greater lists have no fewer -/
theorem hav_mono {xs ys : List Int} (hl : xs.length = ys.length) (x y : Int) (h : ∀ i, i < xs.length → x ≤ xs.getD i 0 → y ≤ ys.getD i 0) : hav xs x ≤ hav ys y := by
  induction xs generalizing ys with
  | nil => simp [hav]
  | cons a xs ih =>
    cases ys with
    | nil => simp at hl
    | cons b ys =>
      have h0 := h 0 (by simp)
      simp at h0
      have h1 := ih (ys := ys) (by simpa using hl) (fun i hi => by
        have := h (i + 1) (by simpa using hi)
        simpa using this)
      simp only [hav, List.countP_cons] at h1 ⊢
      by_cases ha : x ≤ a
      · have hb := h0 ha
        simp [ha, hb]; exact h1
      · simp [ha]; omega

/-! ### the number of committed entries -/
def IsCix (zs : List Int) (c : Int) : Prop := 0 ≤ c ∧ c ≤ 99 ∧ zs.length < 2 * hav zs c ∧ (c = 99 ∨ 2 * hav zs (c + 1) ≤ zs.length)

theorem IsCix.le {zs : List Int} {c d : Int} (h : IsCix zs c) (k : zs.length < 2 * hav zs d) (hd : d ≤ 99) : d ≤ c := by
  obtain ⟨h0, h1, h2, h3⟩ := h
  rcases h3 with h3 | h3
  · omega
  · by_cases e : d ≤ c
    · exact e
    · have := hav_anti (zs := zs) (show c + 1 ≤ d by omega); omega

theorem IsCix.uniq {zs : List Int} {c d : Int} (h : IsCix zs c) (k : IsCix zs d) : c = d := by
  have := h.le k.2.2.1 k.2.1
  have := k.le h.2.2.1 h.2.1
  omega

theorem IsCix.anti {zs : List Int} {c d : Int} (h : IsCix zs c) (k : d ≤ c) : zs.length < 2 * hav zs d := by
  have := hav_anti (zs := zs) k
  have := h.2.2.1
  omega

theorem IsCix.not {zs : List Int} {c d : Int} (h : IsCix zs c) (k : c < d) (hd : d ≤ 99) : 2 * hav zs d ≤ zs.length := by
  by_cases e : zs.length < 2 * hav zs d
  · have := h.le e hd; omega
  · omega
/-- what CommitIndex answers -/
def CixR (zs : List Int) (r : Int) : Prop := (lvB zs = true → IsCix zs r) ∧ (lvB zs = false → r = -1)

theorem CixR.uniq {zs : List Int} {c d : Int} (h : CixR zs c) (k : CixR zs d) : c = d := by
  cases e : lvB zs with
  | true => exact (h.1 e).uniq (k.1 e)
  | false => rw [h.2 e, k.2 e]

theorem CixR.neg {zs : List Int} {c : Int} (h : CixR zs c) : (c < 0) ↔ lvB zs = false := by
  cases e : lvB zs with
  | true => have := (h.1 e).1; simp; omega
  | false => have := h.2 e; simp; omega

theorem CixR.bnd {zs : List Int} {c : Int} (h : CixR zs c) : -1 ≤ c ∧ c ≤ 99 := by
  cases e : lvB zs with
  | true => have := h.1 e; exact ⟨by have := this.1; omega, this.2.1⟩
  | false => have := h.2 e; omega

theorem lvB_rev (zs : List Int) : lvB zs.reverse = lvB zs := by simp [lvB, List.all_reverse]

theorem CixR.rev {zs : List Int} {c : Int} (h : CixR zs c) : CixR zs.reverse c := by
  refine ⟨fun e => ?_, fun e => h.2 (by rw [← lvB_rev]; exact e)⟩
  rw [lvB_rev] at e
  have := h.1 e
  exact ⟨this.1, this.2.1, by rw [hav_rev, List.length_reverse]; exact this.2.2.1, by rw [hav_rev, List.length_reverse]; exact this.2.2.2⟩

/-! ### sorted lists -/
/-- in an ascending list of m, whoever has at least s[m - q] are at least q, and whoever has more are fewer -/
theorem sorted_cix {s zs : List Int} {m : Nat} (hp : s.Perm zs) (hm : zs.length = m) (h1 : 1 ≤ m) (hb : ∀ z ∈ zs, 0 ≤ z ∧ z ≤ 99) (hs : ∀ i j, i ≤ j → j < m → s.getD i 0 ≤ s.getD j 0) : IsCix zs (s.getD (m - (m / 2 + 1)) 0) := by
  have hsl : s.length = m := by rw [hp.length_eq, hm]
  have hi : m - (m / 2 + 1) < m := by omega
  obtain ⟨c, hc⟩ : ∃ c, s.getD (m - (m / 2 + 1)) 0 = c := ⟨_, rfl⟩
  have hcm : c ∈ zs := by rw [← hp.mem_iff, ← hc]; exact getD_mem (by omega)
  have hcb := hb c hcm
  rw [hc]
  have hsp : s = s.take (m - (m / 2 + 1)) ++ s.drop (m - (m / 2 + 1)) := (List.take_append_drop _ _).symm
  have hsp1 : s = s.take (m - (m / 2 + 1) + 1) ++ s.drop (m - (m / 2 + 1) + 1) := (List.take_append_drop _ _).symm
  refine ⟨hcb.1, hcb.2, ?_, .inr ?_⟩
  · have h2 : hav (s.drop (m - (m / 2 + 1))) c = m / 2 + 1 := by
      rw [hav_pos]
      · rw [List.length_drop, hsl]; omega
      · intro z hz
        obtain ⟨i, hi2, e⟩ := mem_getD hz
        rw [List.length_drop, hsl] at hi2
        have h3 := hs (m - (m / 2 + 1)) (m - (m / 2 + 1) + i) (by omega) (by omega)
        rw [← e, ← hc]
        have h4 : (s.drop (m - (m / 2 + 1))).getD i 0 = s.getD (m - (m / 2 + 1) + i) 0 := by simp [List.getElem?_drop]
        rw [h4]; exact h3
    have h3 : hav s c = hav (s.take (m - (m / 2 + 1))) c + hav (s.drop (m - (m / 2 + 1))) c := by
      conv => lhs; rw [hsp]
      exact List.countP_append
    rw [← hav_perm hp, h3, h2, hm]; omega
  · have h2 : hav (s.take (m - (m / 2 + 1) + 1)) (c + 1) = 0 := by
      refine hav_zero fun z hz => ?_
      obtain ⟨i, hi2, e⟩ := mem_getD hz
      rw [List.length_take, hsl] at hi2
      have h3 := hs i (m - (m / 2 + 1)) (by omega) (by omega)
      have h4 : (s.take (m - (m / 2 + 1) + 1)).getD i 0 = s.getD i 0 := by
        have : i < m - (m / 2 + 1) + 1 := by omega
        simp [this]
      rw [← e, h4]; omega
    have h3 : hav s (c + 1) = hav (s.take (m - (m / 2 + 1) + 1)) (c + 1) + hav (s.drop (m - (m / 2 + 1) + 1)) (c + 1) := by
      conv => lhs; rw [hsp1]
      exact List.countP_append
    have h4 := hav_le (s.drop (m - (m / 2 + 1) + 1)) (c + 1)
    rw [List.length_drop, hsl] at h4
    rw [← hav_perm hp, h3, h2, hm]; omega

/-! ### majorities -/
def okLv (m : Nat) (live : List Int) (i : Nat) : Bool := inB (live.getD i 0) 0 ((m : Int) - 1) && (decide (i = 0) || decide (live.getD (i - 1) 0 < live.getD i 0))

def liveB (m : Nat) (live : List Int) : Bool := (List.range live.length).all (okLv m live) && decide (m < 2 * live.length)

theorem liveB_bad {m : Nat} {live : List Int} {i : Nat} (hi : i < live.length) (h : okLv m live i = false) : liveB m live = false := by
  have : (List.range live.length).all (okLv m live) = false := by
    rw [List.all_eq_false]; exact ⟨i, by simpa using hi, by simp [h]⟩
  simp [liveB, this]

theorem liveB_fin {m : Nat} {live : List Int} (h : ∀ i, i < live.length → okLv m live i = true) : liveB m live = decide (m < 2 * live.length) := by
  have : (List.range live.length).all (okLv m live) = true := by
    rw [List.all_eq_true]; intro i hi; exact h i (by simpa using hi)
  simp [liveB, this]

theorem liveB_ok {m : Nat} {live : List Int} (h : liveB m live = true) : m < 2 * live.length ∧ ∀ i, i < live.length → okLv m live i = true := by
  simp only [liveB, Bool.and_eq_true, List.all_eq_true, List.mem_range, decide_eq_true_eq] at h
  exact ⟨h.2, h.1⟩

theorem okLv_rng {m : Nat} {live : List Int} {i : Nat} (h : okLv m live i = true) : 0 ≤ live.getD i 0 ∧ live.getD i 0 < m := by
  simp only [okLv, Bool.and_eq_true, inB_true] at h
  omega

theorem okLv_asc {m : Nat} {live : List Int} {i : Nat} (h : okLv m live i = true) (h0 : 0 < i) : live.getD (i - 1) 0 < live.getD i 0 := by
  simp only [okLv, Bool.and_eq_true, Bool.or_eq_true, decide_eq_true_eq] at h
  omega

theorem okLv_out {m : Nat} {live : List Int} {k : Nat} {z : Int} (hz : live.getD k 0 = z) (h : inB z 0 ((m : Int) - 1) = false) : okLv m live k = false := by
  rw [okLv, hz, h]; rfl

theorem okLv_first {m : Nat} {live : List Int} {k : Nat} {z : Int} (h0 : k = 0) (hz : live.getD k 0 = z) (h : inB z 0 ((m : Int) - 1) = true) : okLv m live k = true := by
  rw [okLv, hz, h, h0]; rfl

theorem okLv_no {m : Nat} {live : List Int} {k : Nat} {z y : Int} (h0 : 0 < k) (hz : live.getD k 0 = z) (hy : live.getD (k - 1) 0 = y) (h : z ≤ y) : okLv m live k = false := by
  have h1 : decide (k = 0) = false := by simp; omega
  have h2 : decide (y < z) = false := by simp; omega
  rw [okLv, hz, hy, h1, h2]; simp

theorem okLv_yes {m : Nat} {live : List Int} {k : Nat} {z y : Int} (hg : inB z 0 ((m : Int) - 1) = true) (hz : live.getD k 0 = z) (hy : live.getD (k - 1) 0 = y) (h : y < z) : okLv m live k = true := by
  rw [okLv, hz, hy, hg]; simp [h]

theorem lastAt_low {m : Nat} {live : List Int} {k : Nat} (h : ∀ j, j < k → okLv m live j = true) : -1 ≤ lastAt live k := by
  unfold lastAt
  split
  · omega
  · have := (okLv_rng (h (k - 1) (by omega))).1; omega
/-- the program's way to tell it -/
theorem okLv_last {m : Nat} {live : List Int} {k : Nat} {z l : Int} (h : ∀ j, j < k → okLv m live j = true) (hz : live.getD k 0 = z) (hl : l = lastAt live k) : okLv m live k = (decide (l < z) && decide (z < m)) := by
  have hlow := lastAt_low h
  rw [← hl] at hlow
  have key : okLv m live k = true ↔ (l < z ∧ z < m) := by
    by_cases h0 : k = 0
    · have e : l = -1 := by rw [hl, lastAt, if_pos h0]
      constructor
      · intro h1
        have := okLv_rng h1
        rw [hz] at this; omega
      · intro h1
        exact okLv_first h0 hz (inB_true.2 (by omega))
    · have e : live.getD (k - 1) 0 = l := by rw [hl, lastAt, if_neg h0]
      constructor
      · intro h1
        have h2 := okLv_rng h1
        have h3 := okLv_asc h1 (by omega)
        rw [hz] at h2 h3; rw [e] at h3; omega
      · intro h1
        exact okLv_yes (inB_true.2 (by omega)) hz e h1.1
  cases ho : okLv m live k with
  | true =>
    have := key.1 ho
    simp [this.1, this.2]
  | false =>
    have h2 : ¬ (l < z ∧ z < m) := fun h3 => by rw [key.2 h3] at ho; cases ho
    symm
    rw [Bool.and_eq_false_iff]
    simp only [decide_eq_false_iff_not]
    omega

/-- strictly ascending, each in range -/
theorem live_facts {m : Nat} {live : List Int} (h : liveB m live = true) : (∀ i ∈ live, 0 ≤ i ∧ i < (m : Int)) ∧ live.Pairwise (· < ·) ∧ m < 2 * live.length := by
  obtain ⟨h1, h2⟩ := liveB_ok h
  refine ⟨fun i hi => ?_, ?_, h1⟩
  · obtain ⟨k, hk, e⟩ := mem_getD hi
    rw [← e]; exact okLv_rng (h2 k hk)
  · have hasc : ∀ d i, i + d + 1 < live.length → live.getD i 0 < live.getD (i + d + 1) 0 := by
      intro d
      induction d with
      | zero => intro i hi; exact okLv_asc (h2 (i + 1) hi) (by omega)
      | succ d ih =>
        intro i hi
        have h3 := ih i (by omega)
        have h4 := okLv_asc (h2 (i + (d + 1) + 1) hi) (by omega)
        exact Int.lt_trans h3 h4
    rw [List.pairwise_iff_getElem]
    intro i j hi hj hij
    have h3 := hasc (j - i - 1) i (by omega)
    rw [show i + (j - i - 1) + 1 = j by omega] at h3
    simpa [hi, hj] using h3

/-! ### the leader -/
def ldrF (zs : List Int) (k i : Int) : Int := if zs.getD k.toNat 0 < zs.getD i.toNat 0 then i else k

def ldr (zs live : List Int) : Int := live.tail.foldl (ldrF zs) (live.headD 0)

theorem ldrF_same (zs : List Int) (k : Int) : ldrF zs k k = k := by simp [ldrF]

theorem ldr_all (zs live : List Int) : live.foldl (ldrF zs) (live.headD 0) = ldr zs live := by
  cases live with
  | nil => rfl
  | cons i live => simp [ldr, ldrF_same]

theorem ldrF_pad (zs : List Int) (n : Nat) : ldrF (zs ++ List.replicate n 0) = ldrF zs := by
  have h : ∀ j : Nat, (zs ++ List.replicate n 0).getD j 0 = zs.getD j 0 := by
    intro j
    simp only [List.getD_eq_getElem?_getD]
    by_cases hj : j < zs.length
    · rw [List.getElem?_append_left hj]
    · rw [List.getElem?_append_right (by omega), List.getElem?_eq_none (l := zs) (by omega)]
      by_cases h2 : j - zs.length < n
      · simp [h2]
      · simp [h2]
  funext k i
  unfold ldrF
  rw [h, h]

theorem getD_pad (zs : List Int) (n j : Nat) : (zs ++ List.replicate n 0).getD j 0 = zs.getD j 0 := by
  simp only [List.getD_eq_getElem?_getD]
  by_cases hj : j < zs.length
  · rw [List.getElem?_append_left hj]
  · rw [List.getElem?_append_right (by omega), List.getElem?_eq_none (l := zs) (by omega)]
    by_cases h2 : j - zs.length < n
    · simp [h2]
    · simp [h2]

theorem ldr_pad (zs live : List Int) (n : Nat) : ldr (zs ++ List.replicate n 0) live = ldr zs live := by simp [ldr, ldrF_pad]

theorem foldl_take_succ {β : Type} (f : β → Int → β) (b : β) {l : List Int} {k : Nat} {z : Int} (hk : k < l.length) (hz : l.getD k 0 = z) : (l.take (k + 1)).foldl f b = f ((l.take k).foldl f b) z := by
  have e : l[k] = z := by rw [← hz]; simp [hk]
  rw [List.take_add_one, List.getElem?_eq_getElem hk, e]; simp

theorem foldl_tail_succ {β : Type} (f : β → Int → β) (b : β) {l : List Int} {k : Nat} {z : Int} (h1 : 1 ≤ k) (hk : k < l.length) (hz : l.getD k 0 = z) : (l.take (k + 1)).tail.foldl f b = f ((l.take k).tail.foldl f b) z := by
  have e : l[k] = z := by rw [← hz]; simp [hk]
  rw [List.take_add_one, List.getElem?_eq_getElem hk, e]
  cases l with
  | nil => simp at hk
  | cons a l =>
    obtain ⟨k, rfl⟩ : ∃ j, k = j + 1 := ⟨k - 1, by omega⟩
    simp

theorem foldl_ldr_mem (zs : List Int) (l : List Int) (b : Int) : l.foldl (ldrF zs) b = b ∨ l.foldl (ldrF zs) b ∈ l := by
  induction l generalizing b with
  | nil => exact .inl rfl
  | cons i l ih =>
    simp only [List.foldl_cons]
    have h2 : ldrF zs b i = b ∨ ldrF zs b i = i := by unfold ldrF; split <;> simp
    rcases ih (ldrF zs b i) with h | h
    · rcases h2 with h2 | h2
      · exact .inl (h.trans h2)
      · exact .inr (by rw [h, h2]; exact List.mem_cons_self)
    · exact .inr (List.mem_cons_of_mem _ h)

theorem ldr_mem {zs live : List Int} (h : live ≠ []) : ldr zs live ∈ live := by
  cases live with
  | nil => exact absurd rfl h
  | cons i live =>
    have := foldl_ldr_mem zs live i
    simp only [ldr, List.tail_cons, List.headD_cons]
    rcases this with h | h
    · rw [h]; exact List.mem_cons_self
    · exact List.mem_cons_of_mem _ h

theorem foldl_ldr_most (zs : List Int) (l : List Int) (b : Int) (hp : (b :: l).Pairwise (· < ·)) :
    (∀ i ∈ b :: l, zs.getD i.toNat 0 ≤ zs.getD (l.foldl (ldrF zs) b).toNat 0) ∧ (∀ i ∈ b :: l, i < l.foldl (ldrF zs) b → zs.getD i.toNat 0 < zs.getD (l.foldl (ldrF zs) b).toNat 0) := by
  induction l generalizing b with
  | nil => simp
  | cons i l ih =>
    rw [List.pairwise_cons] at hp
    obtain ⟨hb, hp2⟩ := hp
    have hbi : b < i := hb i List.mem_cons_self
    rw [List.pairwise_cons] at hp2
    have hnew : (ldrF zs b i :: l).Pairwise (· < ·) := by
      rw [List.pairwise_cons]
      refine ⟨fun j hj => ?_, hp2.2⟩
      unfold ldrF; split
      · exact hp2.1 j hj
      · exact hb j (List.mem_cons_of_mem _ hj)
    obtain ⟨h1, h2⟩ := ih _ hnew
    simp only [List.foldl_cons]
    have hk1 := h1 _ List.mem_cons_self
    have hk2 := h2 _ List.mem_cons_self
    have hmem := foldl_ldr_mem zs l (ldrF zs b i)
    obtain ⟨r, hr⟩ : ∃ r, l.foldl (ldrF zs) (ldrF zs b i) = r := ⟨_, rfl⟩
    rw [hr] at h1 h2 hk1 hk2 hmem ⊢
    unfold ldrF at hk1 hk2 hmem
    by_cases hlt : zs.getD b.toNat 0 < zs.getD i.toNat 0
    · rw [if_pos hlt] at hk1 hk2 hmem
      refine ⟨fun j hj => ?_, fun j hj hjr => ?_⟩
      · rcases List.mem_cons.1 hj with rfl | hj
        · omega
        · rcases List.mem_cons.1 hj with rfl | hj
          · exact hk1
          · exact h1 j (List.mem_cons_of_mem _ hj)
      · rcases List.mem_cons.1 hj with rfl | hj
        · omega
        · rcases List.mem_cons.1 hj with rfl | hj
          · exact hk2 hjr
          · exact h2 j (List.mem_cons_of_mem _ hj) hjr
    · rw [if_neg hlt] at hk1 hk2 hmem
      refine ⟨fun j hj => ?_, fun j hj hjr => ?_⟩
      · rcases List.mem_cons.1 hj with rfl | hj
        · exact hk1
        · rcases List.mem_cons.1 hj with rfl | hj
          · omega
          · exact h1 j (List.mem_cons_of_mem _ hj)
      · rcases List.mem_cons.1 hj with rfl | hj
        · exact hk2 hjr
        · rcases List.mem_cons.1 hj with rfl | hj
          · have hbr : b < r := by omega
            have := hk2 hbr
            omega
          · exact h2 j (List.mem_cons_of_mem _ hj) hjr

theorem ldr_most {zs live : List Int} (hp : live.Pairwise (· < ·)) : (∀ i ∈ live, zs.getD i.toNat 0 ≤ zs.getD (ldr zs live).toNat 0) ∧ (∀ i ∈ live, i < ldr zs live → zs.getD i.toNat 0 < zs.getD (ldr zs live).toNat 0) := by
  cases live with
  | nil => simp
  | cons b l => exact foldl_ldr_most zs l b hp

/-- what CommitLeader answers -/
def ldB (zs live : List Int) : Bool := lvB zs && liveB zs.length live

def ldrR (zs live : List Int) : Int := if ldB zs live then ldr zs live else -1

theorem ldB_no1 {zs live : List Int} (h : lvB zs = false) : ldB zs live = false := by simp [ldB, h]

theorem ldB_no2 {zs live : List Int} (h : liveB zs.length live = false) : ldB zs live = false := by simp [ldB, h]

theorem ldB_yes {zs live : List Int} (h : lvB zs = true) (k : liveB zs.length live = true) : ldB zs live = true := by simp [ldB, h, k]

theorem ldB_both {zs live : List Int} (h : ldB zs live = true) : lvB zs = true ∧ liveB zs.length live = true := by simpa [ldB] using h

theorem ldrR_no {zs live : List Int} (h : ldB zs live = false) : ldrR zs live = -1 := by simp [ldrR, h]

theorem ldrR_yes {zs live : List Int} (h : ldB zs live = true) : ldrR zs live = ldr zs live := by simp [ldrR, h]

theorem live_ne {m : Nat} {live : List Int} (h : liveB m live = true) : live ≠ [] := by
  have := (liveB_ok h).1
  intro e; subst e; simp at this

theorem ldr_rng {zs live : List Int} (h : liveB zs.length live = true) : 0 ≤ ldr zs live ∧ ldr zs live < zs.length := by
  have h1 := ldr_mem (zs := zs) (live_ne h)
  exact (live_facts h).1 _ h1

theorem ldrR_rng {zs live : List Int} (h : ldB zs live = true) : 0 ≤ ldrR zs live ∧ ldrR zs live < zs.length := by
  rw [ldrR_yes h]; exact ldr_rng (ldB_both h).2

/-! ### repair -/
def setAll (v : Int) (zs live : List Int) : List Int := live.foldl (fun l i => l.set i.toNat v) zs

def rep (zs live : List Int) : List Int := setAll (zs.getD (ldr zs live).toNat 0) zs live

def repR (zs live : List Int) : List Int := if ldB zs live then rep zs live else []

theorem repR_no {zs live : List Int} (h : ldB zs live = false) : repR zs live = [] := by simp [repR, h]

theorem repR_yes {zs live : List Int} (h : ldB zs live = true) : repR zs live = rep zs live := by simp [repR, h]

theorem setAll_len (v : Int) (zs live : List Int) : (setAll v zs live).length = zs.length := by
  unfold setAll
  induction live generalizing zs with
  | nil => rfl
  | cons i l ih => rw [List.foldl_cons, ih]; simp

theorem rep_len (zs live : List Int) : (rep zs live).length = zs.length := setAll_len _ _ _

theorem repR_len (zs live : List Int) : (repR zs live).length ≤ zs.length := by
  unfold repR; split
  · rw [rep_len]; exact Nat.le_refl _
  · simp

theorem setAll_take (v : Int) (zs live : List Int) (n : Nat) : (setAll v zs live).take n = setAll v (zs.take n) live := by
  unfold setAll
  induction live generalizing zs with
  | nil => rfl
  | cons i l ih => rw [List.foldl_cons, ih, List.foldl_cons, List.take_set]

theorem setAll_succ {v : Int} {zs live : List Int} {k : Nat} {z : Int} (hk : k < live.length) (hz : live.getD k 0 = z) : setAll v zs (live.take (k + 1)) = (setAll v zs (live.take k)).set z.toNat v :=
  foldl_take_succ (fun (l : List Int) (i : Int) => l.set i.toNat v) zs hk hz

theorem rep_pad {zs live : List Int} {n m : Nat} (hm : zs.length = m) : (rep (zs ++ List.replicate n 0) live).take m = rep zs live := by
  rw [rep, setAll_take, ldr_pad, getD_pad, rep]
  congr 1
  rw [← hm]; simp

theorem setAll_get {v : Int} {zs live : List Int} (h : ∀ i ∈ live, 0 ≤ i) {j : Nat} (hj : j < zs.length) : (setAll v zs live).getD j 0 = if (j : Int) ∈ live then v else zs.getD j 0 := by
  unfold setAll
  induction live generalizing zs with
  | nil => simp
  | cons i l ih =>
    rw [List.foldl_cons, ih (fun a ha => h a (List.mem_cons_of_mem _ ha)) (by simpa using hj)]
    have hi := h i List.mem_cons_self
    by_cases h1 : (j : Int) ∈ l
    · simp [h1]
    · by_cases h2 : (j : Int) = i
      · have e : i.toNat = j := by omega
        rw [if_neg h1, if_pos (List.mem_cons.2 (.inl h2)), e]; simp [hj]
      · have e : i.toNat ≠ j := by omega
        rw [if_neg h1, if_neg (by rw [List.mem_cons]; exact fun h3 => h3.elim h2 h1)]
        simp [e]

theorem rep_get {zs live : List Int} (h : liveB zs.length live = true) {j : Nat} (hj : j < zs.length) : (rep zs live).getD j 0 = if (j : Int) ∈ live then zs.getD (ldr zs live).toNat 0 else zs.getD j 0 :=
  setAll_get (fun i hi => ((live_facts h).1 i hi).1) hj

/-- strictly ascending places at which p holds are no more than p holds -/
theorem places (p : Int → Bool) (zs : List Int) (lo : Nat) (L : List Int) (hp : L.Pairwise (· < ·)) (h : ∀ i ∈ L, (lo : Int) ≤ i ∧ i < (lo : Int) + zs.length ∧ p (zs.getD (i.toNat - lo) 0) = true) : L.length ≤ zs.countP p := by
  induction zs generalizing lo L with
  | nil =>
    cases L with
    | nil => simp
    | cons i L =>
      have := h i List.mem_cons_self
      simp at this; omega
  | cons z zs ih =>
    have step : ∀ M : List Int, M.Pairwise (· < ·) → (∀ i ∈ M, (lo : Int) < i) → (∀ i ∈ M, i ∈ L) → M.length ≤ zs.countP p := by
      intro M hM h1 h2
      refine ih (lo + 1) M hM fun i hi => ?_
      have h3 := h i (h2 i hi)
      have h4 := h1 i hi
      simp only [List.length_cons] at h3
      refine ⟨by omega, by omega, ?_⟩
      have e : i.toNat - lo = (i.toNat - (lo + 1)) + 1 := by omega
      rw [e] at h3
      simpa using h3.2.2
    cases L with
    | nil => simp
    | cons i L =>
      rw [List.pairwise_cons] at hp
      have h0 := h i List.mem_cons_self
      by_cases e : i = (lo : Int)
      · have hz : p z = true := by
          have h3 := h0.2.2
          have e2 : i.toNat - lo = 0 := by omega
          rw [e2] at h3; simpa using h3
        have h5 := step L hp.2 (fun j hj => by have := hp.1 j hj; omega) (fun j hj => List.mem_cons_of_mem _ hj)
        rw [List.countP_cons, hz, List.length_cons]; simp; exact h5
      · have h5 := step (i :: L) (List.pairwise_cons.2 hp) (fun j hj => by
          rcases List.mem_cons.1 hj with rfl | hj
          · omega
          · have := hp.1 j hj; omega) (fun j hj => hj)
        rw [List.countP_cons]
        omega

theorem live_places {p : Int → Bool} {zs live : List Int} (h : liveB zs.length live = true) (hp : ∀ i ∈ live, p (zs.getD i.toNat 0) = true) : live.length ≤ zs.countP p := by
  obtain ⟨h1, h2, _⟩ := live_facts h
  exact places p zs 0 live h2 fun i hi => ⟨by have := (h1 i hi).1; omega, by have := (h1 i hi).2; omega, by simpa using hp i hi⟩
/-- some live copy has all committed entries -/
theorem live_has {zs live : List Int} {c : Int} (h : liveB zs.length live = true) (hc : zs.length < 2 * hav zs c) : ∃ i ∈ live, c ≤ zs.getD i.toNat 0 := by
  apply Classical.byContradiction
  intro hn
  have hall : ∀ i ∈ live, (fun z : Int => decide (z < c)) (zs.getD i.toNat 0) = true := by
    intro i hi
    have : ¬ c ≤ zs.getD i.toNat 0 := fun h2 => hn ⟨i, hi, h2⟩
    simp only [decide_eq_true_eq]; omega
  have h1 := live_places (p := fun z => decide (z < c)) h hall
  have h2 : zs.length = zs.countP (fun z => decide (c ≤ z)) + zs.countP (fun z => decide (z < c)) := by
    have := List.length_eq_countP_add_countP (fun z : Int => decide (c ≤ z)) (l := zs)
    simpa using this
  have h3 := (live_facts h).2.2
  unfold hav at hc
  omega

theorem ldr_has {zs live : List Int} {c : Int} (h : liveB zs.length live = true) (hc : IsCix zs c) : c ≤ zs.getD (ldr zs live).toNat 0 := by
  obtain ⟨i, hi, h1⟩ := live_has h hc.2.2.1
  have := (ldr_most (zs := zs) (live_facts h).2.1).1 i hi
  omega

theorem ldr_bnd {zs live : List Int} (h : lvB zs = true) (k : liveB zs.length live = true) : 0 ≤ zs.getD (ldr zs live).toNat 0 ∧ zs.getD (ldr zs live).toNat 0 ≤ 99 := by
  have h1 := ldr_rng k
  exact (lvB_true h).2.2 _ (getD_mem (by omega))

theorem rep_valid {zs live : List Int} (h : lvB zs = true) (k : liveB zs.length live = true) : lvB (rep zs live) = true := by
  obtain ⟨h1, h2, h3⟩ := lvB_true h
  refine lvB_of (by rw [rep_len]; exact h1) (by rw [rep_len]; exact h2) fun z hz => ?_
  obtain ⟨i, hi, e⟩ := mem_getD hz
  rw [rep_len] at hi
  rw [rep_get k hi] at e
  rw [← e]
  split
  · exact ldr_bnd h k
  · exact h3 _ (getD_mem hi)

theorem rep_ge {zs live : List Int} (k : liveB zs.length live = true) {i : Nat} (hi : i < zs.length) : zs.getD i 0 ≤ (rep zs live).getD i 0 := by
  rw [rep_get k hi]
  split
  · rename_i hm
    have := (ldr_most (zs := zs) (live_facts k).2.1).1 _ hm
    simpa using this
  · exact Int.le_refl _

theorem rep_cix {zs live : List Int} {c d : Int} (h : lvB zs = true) (k : liveB zs.length live = true) (hc : IsCix zs c) (hd : IsCix (rep zs live) d) : c ≤ d ∧ zs.getD (ldr zs live).toNat 0 ≤ d := by
  have hl := rep_len zs live
  refine ⟨hd.le ?_ hc.2.1, hd.le ?_ (ldr_bnd h k).2⟩
  · have := hav_mono (x := c) (y := c) hl.symm (fun i hi h2 => by have := rep_ge k hi; omega)
    have := hc.2.2.1
    omega
  · obtain ⟨f1, f2, f3⟩ := live_facts k
    have := live_places (zs := rep zs live) (live := live) (p := fun z => decide (zs.getD (ldr zs live).toNat 0 ≤ z)) (by rw [hl]; exact k) (fun i hi => by
      have hr := f1 i hi
      have hr2 : i.toNat < zs.length := by omega
      rw [rep_get k hr2, if_pos (by rw [Int.toNat_of_nonneg hr.1]; exact hi)]
      simp)
    rw [hl]
    have e : hav (rep zs live) (zs.getD (ldr zs live).toNat 0) = (rep zs live).countP (fun z => decide (zs.getD (ldr zs live).toNat 0 ≤ z)) := rfl
    omega

theorem rep_twice {zs live : List Int} (h : lvB zs = true) (k : liveB zs.length live = true) : repR (rep zs live) live = rep zs live := by
  have hl := rep_len zs live
  have k2 : liveB (rep zs live).length live = true := by rw [hl]; exact k
  rw [repR_yes (ldB_yes (rep_valid h k) k2)]
  obtain ⟨f1, f2, f3⟩ := live_facts k
  have hm := ldr_mem (zs := rep zs live) (live_ne k)
  have hr := f1 _ hm
  have hv : (rep zs live).getD (ldr (rep zs live) live).toNat 0 = zs.getD (ldr zs live).toNat 0 := by
    rw [rep_get k (by omega), if_pos (by rw [Int.toNat_of_nonneg hr.1]; exact hm)]
  apply List.ext_getElem (by rw [rep_len])
  intro i h1 h2
  have hi : i < zs.length := by rw [hl] at h2; exact h2
  have e1 := rep_get k2 h2
  rw [hv] at e1
  have e2 := rep_get k hi
  have g1 : (rep (rep zs live) live).getD i 0 = (rep (rep zs live) live)[i] := by simp [h1]
  have g2 : (rep zs live).getD i 0 = (rep zs live)[i] := by simp [h2]
  rw [← g1, ← g2, e1]
  split
  · rename_i hm2
    rw [e2, if_pos hm2]
  · rfl

/-! ### what is needed -/
def needR (zs : List Int) (x : Int) : Int := if lvB zs && lnB x then max ((zs.length : Int) / 2 + 1 - hav zs x) 0 else -1

theorem needR_no1 {zs : List Int} {x : Int} (h : lvB zs = false) : needR zs x = -1 := by simp [needR, h]

theorem needR_no2 {zs : List Int} {x : Int} (h : lnB x = false) : needR zs x = -1 := by simp [needR, h]

theorem needR_yes {zs : List Int} {x : Int} (h : lvB zs = true) (k : lnB x = true) : needR zs x = max ((zs.length : Int) / 2 + 1 - hav zs x) 0 := by simp [needR, h, k]

theorem needR_rev (zs : List Int) (x : Int) : needR zs.reverse x = needR zs x := by simp [needR, lvB_rev, hav_rev]
end Go.Proofs.Ytgejohkdgcoeeaa
