/-
  Plain mathematics of credits, continued: the number of credits, who is stuck, the order.
-/
import Derived.Test.YtfcoobebebdniaaCdC
namespace Go.Proofs.Ytfcoobebebdniaa
set_option linter.unusedVariables false
set_option linter.unusedSimpArgs false

/-! ### the number of credits of a group -/
def hldN (H : Nat → Ho) (n : Nat) (g : Int) : Nat := cntF n fun k => hasB (H k).1 g

def credN (c : Cr) (g : Nat) : Int := c.f g + (hldN c.h c.hs.length (g : Int) : Nat)

theorem cntF_congr {n : Nat} {p q : Nat → Bool} (h : ∀ k, k < n → p k = q k) : cntF n p = cntF n q := by
  unfold cntF
  rw [List.filter_congr (fun k hk => h k (by simpa using hk))]
/-- two tests that part at one place -/
theorem cntF_one {n a : Nat} {p q : Nat → Bool} (ha : a < n) (h : ∀ k, k < n → k ≠ a → p k = q k) : cntF n p + (if q a then 1 else 0) = cntF n q + (if p a then 1 else 0) := by
  unfold cntF
  have key : ∀ l : List Nat, l.Nodup → (∀ k ∈ l, k ≠ a → p k = q k) → (a ∈ l → (l.filter p).length + (if q a then 1 else 0) = (l.filter q).length + (if p a then 1 else 0)) ∧ (a ∉ l → (l.filter p).length = (l.filter q).length) := by
    intro l
    induction l with
    | nil => exact fun _ _ => ⟨fun h => (by cases h), fun _ => rfl⟩
    | cons b l ih =>
      intro hn hk
      rw [List.nodup_cons] at hn
      obtain ⟨i1, i2⟩ := ih hn.2 (fun k h1 h2 => hk k (by simp [h1]) h2)
      rw [List.filter_cons, List.filter_cons]
      refine ⟨fun hm => ?_, fun hm => ?_⟩
      · by_cases e : b = a
        · subst e
          have := i2 hn.1
          cases hp : p b <;> cases hq : q b <;> simp <;> omega
        · have hm' : a ∈ l := by
            rcases List.mem_cons.1 hm with h | h
            · exact absurd h.symm e
            · exact h
          have h1 := i1 hm'
          have h2 := hk b (by simp) e
          rw [h2]
          cases hq : q b <;> simp <;> omega
      · have hb : b ≠ a := fun e => hm (by simp [e])
        have h2 := hk b (by simp) hb
        have h1 := i2 (fun h => hm (by simp [h]))
        rw [h2]
        cases hq : q b <;> simp [h1]
  exact (key _ List.nodup_range (fun k hk => h k (by simpa using hk))).1 (by simpa using ha)

theorem hasB_mem' {xs : List Int} {z : Int} : hasB xs z = true ↔ z ∈ xs := hasB_iff

theorem hasB_union {xs : List Int} {g z : Int} (hz : 0 ≤ z ∧ z ≤ 4) : hasB (unionL xs [g]) z = (hasB xs z || decide (z = g)) := by
  rw [Bool.eq_iff_iff, Bool.or_eq_true, decide_eq_true_eq, hasB_iff, hasB_iff, unionL_mem]
  exact ⟨fun h => h.2, fun h => ⟨hz, h⟩⟩

theorem AskOk.kept {c out : Cr} {s g : Int} {S G : Nat} (h : AskOk c s g out S G) {q : Nat} (hq : q < 5) : credN out q = credN c q := by
  have v := h.v
  have hGl : G < c.fr.length := by rw [v.fl]; exact h.hG
  rcases h.o with ⟨h0, rfl⟩ | ⟨h0, rfl⟩
  · have hh : ∀ k, (tak c S G).h k = if k = S then (unionL (c.h S).1 [(G : Int)], -1) else c.h k := fun k => tak_h h.hS
    have hf : ∀ k, (tak c S G).f k = if k = G then c.f G - 1 else c.f k := fun k => tak_f hGl
    unfold credN hldN
    rw [(tak_n (c := c) (s := S) (g := G)).1, hf]
    have h1 := cntF_one (n := c.hs.length) (a := S) (p := fun k => hasB ((tak c S G).h k).1 (q : Int)) (q := fun k => hasB (c.h k).1 (q : Int)) h.hS (fun k _ hk => by simp only [hh, if_neg hk])
    simp only [hh, if_true] at h1
    rw [hasB_union (by omega)] at h1
    have h2 : cntF c.hs.length (fun k => hasB ((tak c S G).h k).1 (q : Int)) = cntF c.hs.length (fun k => hasB (if k = S then (unionL (c.h S).1 [(G : Int)], -1) else c.h k).1 (q : Int)) := cntF_congr (fun k _ => by rw [hh])
    rw [h2]
    by_cases e : q = G
    · subst e
      have h3 : hasB (c.h S).1 (q : Int) = false := by rw [← Bool.not_eq_true, hasB_iff]; exact h.no
      rw [h3] at h1
      simp at h1
      rw [if_pos rfl]
      omega
    · have h3 : decide ((q : Int) = (G : Int)) = false := by simp; omega
      rw [h3, Bool.or_false] at h1
      rw [if_neg e]
      omega
  · unfold credN hldN
    rw [(wai_n (c := c) (s := S) (g := (G : Int))).1]
    have : cntF c.hs.length (fun k => hasB ((wai c S (G : Int)).h k).1 (q : Int)) = cntF c.hs.length (fun k => hasB (c.h k).1 (q : Int)) := cntF_congr (fun k _ => by
      rw [wai_h h.hS]
      split
      · rename_i e; rw [e]
      · rfl)
    rw [this]; rfl
/-- what a sender has behind a giving back -/
theorem gvH_has {c : Cr} {S k : Nat} {q : Nat} (v : Vc c) (hk : k < c.hs.length) (hq : q < 5) : hasB (gvH c S (c.h S).1 k).1 (q : Int) = if k = S then false else (hasB (c.h k).1 (q : Int) || (hasB (c.h S).1 (q : Int) && decide (fw c (q : Int) = some k))) := by
  unfold gvH
  split
  · rfl
  · split
    · rename_i h
      rw [hasB_union (by omega)]
      by_cases e : (q : Int) = (c.h k).2
      · have h1 : hasB (c.h S).1 (q : Int) = true := hasB_iff.2 (by rw [e]; exact h.1)
        have h2 : fw c (q : Int) = some k := by rw [e]; exact h.2
        rw [h1]; simp [e, h.2]
      · have h2 : fw c (q : Int) ≠ some k := fun h3 => e (fw_some h3).2.1.symm
        simp [e, h2]
    · rename_i h
      cases h1 : hasB (c.h S).1 (q : Int) with
      | false => simp
      | true =>
        have h2 : fw c (q : Int) ≠ some k := fun h3 => h ⟨by rw [(fw_some h3).2.1]; exact hasB_iff.1 h1, by rw [(fw_some h3).2.1]; exact h3⟩
        simp [h2]

theorem GiveOk.kept {c out : Cr} {s : Int} {S : Nat} (h : GiveOk c s out S) {q : Nat} (hq : q < 5) : credN out q = credN c q := by
  have v := h.v
  unfold credN hldN
  rw [h.n, h.f hq]
  have e0 : cntF c.hs.length (fun k => hasB (out.h k).1 (q : Int)) = cntF c.hs.length (fun k => if k = S then false else (hasB (c.h k).1 (q : Int) || (hasB (c.h S).1 (q : Int) && decide (fw c (q : Int) = some k)))) :=
    cntF_congr fun k hk => by rw [h.h hk]; exact gvH_has v hk hq
  rw [e0]
  -- without the sender
  obtain ⟨A, hA⟩ : ∃ A, cntF c.hs.length (fun k => if k = S then false else hasB (c.h k).1 (q : Int)) = A := ⟨_, rfl⟩
  have h1 : A + (if hasB (c.h S).1 (q : Int) = true then 1 else 0) = cntF c.hs.length (fun k => hasB (c.h k).1 (q : Int)) := by
    have := cntF_one (n := c.hs.length) (a := S) (p := fun k => if k = S then false else hasB (c.h k).1 (q : Int)) (q := fun k => hasB (c.h k).1 (q : Int)) h.hS (fun k _ hk => if_neg hk)
    rw [hA] at this
    rw [this, if_neg (by simp), Nat.add_zero]
  unfold gvF
  cases hs : hasB (c.h S).1 (q : Int) with
  | false =>
    rw [hs, if_neg (by simp)] at h1
    rw [if_neg (fun k => by rw [← hasB_iff, hs] at k; cases k.1)]
    have : cntF c.hs.length (fun k => if k = S then false else (hasB (c.h k).1 (q : Int) || (false && decide (fw c (q : Int) = some k)))) = A := by
      rw [← hA]; exact cntF_congr (fun k _ => by simp)
    rw [this]
    omega
  | true =>
    rw [hs, if_pos rfl] at h1
    cases hf : fw c (q : Int) with
    | none =>
      rw [if_pos ⟨hasB_iff.1 hs, rfl⟩]
      have : cntF c.hs.length (fun k => if k = S then false else (hasB (c.h k).1 (q : Int) || (true && decide (none = some k)))) = A := by
        rw [← hA]; exact cntF_congr (fun k _ => by simp)
      rw [this]
      omega
    | some k0 =>
      obtain ⟨hk0, hw0, _⟩ := fw_some hf
      rw [if_neg (fun k => by cases k.2)]
      have hne : k0 ≠ S := fun e => by subst e; have := h.w; omega
      have hno : hasB (c.h k0).1 (q : Int) = false := by
        rw [← Bool.not_eq_true, hasB_iff]
        have := v.wh k0 hk0 (by omega)
        rw [hw0] at this
        exact this
      have h2 := cntF_one (n := c.hs.length) (a := k0) (p := fun k => if k = S then false else (hasB (c.h k).1 (q : Int) || (true && decide (some k0 = some k)))) (q := fun k => if k = S then false else hasB (c.h k).1 (q : Int)) hk0 (fun k _ hk => by
        have : ¬ (k0 = k) := fun e => hk e.symm
        simp [this])
      rw [hA] at h2
      have h3 : (if k0 = S then false else hasB (c.h k0).1 (q : Int)) = false := by rw [if_neg hne]; exact hno
      have h4 : (if k0 = S then false else (hasB (c.h k0).1 (q : Int) || (true && decide (some k0 = some k0)))) = true := by rw [if_neg hne]; simp
      rw [if_neg (by rw [h3]; simp), if_pos h4] at h2
      omega

/-! ### the order -/
def Od (c : Cr) : Prop := ∀ i, i < c.hs.length → 0 ≤ (c.h i).2 → ∀ x ∈ (c.h i).1, x < (c.h i).2

theorem asc_last {xs : List Int} (h : xs.Pairwise (· < ·)) {x : Int} (hx : x ∈ xs) : x ≤ xs.getD (xs.length - 1) 0 := by
  obtain ⟨i, hi, rfl⟩ := List.getElem_of_mem hx
  rw [List.getD_eq_getElem?_getD, List.getElem?_eq_getElem (by omega)]
  show xs[i] ≤ xs[xs.length - 1]
  rcases Nat.lt_or_ge i (xs.length - 1) with h1 | h1
  · have := List.pairwise_iff_getElem.1 h i (xs.length - 1) hi (by omega) h1
    omega
  · have : i = xs.length - 1 := by omega
    simp only [this]
    exact Int.le_refl _

theorem last_mem {xs : List Int} (h : 0 < xs.length) : xs.getD (xs.length - 1) 0 ∈ xs := by
  rw [List.getD_eq_getElem?_getD, List.getElem?_eq_getElem (by omega)]
  exact List.getElem_mem _

theorem orB_true {c : Cr} : orB c = true ↔ (Vc c ∧ Od c) := by
  unfold orB
  rw [Bool.and_eq_true, crB_true, List.all_eq_true]
  constructor
  · rintro ⟨v, h⟩
    refine ⟨v, fun i hi hw x hx => ?_⟩
    have h1 := h _ (List.mem_of_getElem? (at_h hi))
    have h2 := asc_last (setB_true.1 (v.set i hi)).1 hx
    have h3 : 0 < (c.h i).1.length := List.length_pos_of_mem hx
    unfold ohB at h1
    simp [hw, h3] at h1
    have h4 : x ≠ (c.h i).2 := fun e => v.wh i hi hw (by rw [← e]; exact hx)
    simp only [List.getD_eq_getElem?_getD] at h1 h2
    omega
  · rintro ⟨v, h⟩
    refine ⟨v, fun x hx => ?_⟩
    obtain ⟨i, hi, rfl⟩ := List.getElem_of_mem hx
    have e : c.h i = c.hs[i] := h_at (List.getElem?_eq_getElem hi)
    rw [← e]
    unfold ohB
    by_cases hw : 0 ≤ (c.h i).2
    · by_cases hl : 0 < (c.h i).1.length
      · have := h i hi hw _ (last_mem hl)
        have h2 : decide ((c.h i).2 < (c.h i).1.getD ((c.h i).1.length - 1) 0) = false := by
          rw [decide_eq_false_iff_not]; omega
        rw [h2]; simp
      · have : decide (0 < (c.h i).1.length) = false := by simpa using hl
        rw [this]; simp
    · have : decide (0 ≤ (c.h i).2) = false := by simpa using hw
      rw [this]; simp

theorem AskOk.ordered {c out : Cr} {s g : Int} {S G : Nat} (h : AskOk c s g out S G) (ho : Od c) (hl : ∀ x ∈ (c.h S).1, x ≤ (G : Int)) : Od out := by
  rcases h.o with ⟨h0, rfl⟩ | ⟨h0, rfl⟩
  · intro i hi hw x hx
    rw [tak_h h.hS] at hw hx ⊢
    split at hw
    · simp at hw
    · rename_i e
      rw [if_neg e] at hx ⊢
      rw [tak_n.1] at hi
      exact ho i hi hw x hx
  · intro i hi hw x hx
    rw [wai_h h.hS] at hw hx ⊢
    rw [wai_n.1] at hi
    split at hw
    · rename_i e
      rw [if_pos e] at hx ⊢
      have h1 := hl x hx
      have h2 : x ≠ (G : Int) := fun e => h.no (by rw [← e]; exact hx)
      show x < (G : Int)
      omega
    · rename_i e
      rw [if_neg e] at hx ⊢
      exact ho i hi hw x hx

theorem GiveOk.ordered {c out : Cr} {s : Int} {S : Nat} (h : GiveOk c s out S) (ho : Od c) : Od out := by
  intro i hi hw x hx
  rw [h.n] at hi
  rw [h.h hi] at hw hx ⊢
  obtain ⟨e, hne⟩ := gvH_wait hw
  rw [e] at hw hx ⊢
  exact ho i hi hw x hx

/-! ### who is stuck -/
theorem stuck_never {c : Cr} (v : Vc c) (ho : Od c) (hh : ∀ i, i < c.hs.length → (c.h i).2 < 0 ∨ ∃ k, k < c.hs.length ∧ (c.h i).2 ∈ (c.h k).1) : ∀ i, i < c.hs.length → fdB c i = true := by
  have key : ∀ (m : Nat) (i : Nat), i < c.hs.length → 4 ≤ (c.h i).2 + (m : Int) → fdB c i = true := by
    intro m
    induction m with
    | zero =>
      intro i hi hm
      rcases hh i hi with h | ⟨k, hk, h⟩
      · omega
      · refine (fdB_iff hi).2 (.inr ⟨k, hk, ?_, h⟩)
        rcases Classical.em (0 ≤ (c.h k).2) with h1 | h1
        · have := ho k hk h1 _ h
          have := (v.wr k hk).2
          omega
        · exact (fdB_iff hk).2 (.inl (by omega))
    | succ m ih =>
      intro i hi hm
      rcases hh i hi with h | ⟨k, hk, h⟩
      · exact (fdB_iff hi).2 (.inl h)
      · refine (fdB_iff hi).2 (.inr ⟨k, hk, ?_, h⟩)
        rcases Classical.em (0 ≤ (c.h k).2) with h1 | h1
        · have := ho k hk h1 _ h
          exact ih k hk (by omega)
        · exact (fdB_iff hk).2 (.inl (by omega))
  intro i hi
  exact key 5 i hi (by have := (v.wr i hi).1; omega)

theorem stuL_nil {c : Cr} (h : ∀ i, i < c.hs.length → fdB c i = true) : stuL c = [] := by
  unfold stuL
  rw [List.filter_eq_nil_iff.2 (fun i hi => by rw [h i (by simpa using hi)]; simp)]
  rfl
/-- giving back frees nobody less -/
theorem GiveOk.freer {c out : Cr} {s : Int} {S : Nat} (h : GiveOk c s out S) {i : Nat} (hf : fdB c i = true) : fdB out i = true := by
  have v := h.v
  have hn := h.n
  refine fdB_ind (P := fun i => fdB out i = true) (fun i hi hw => ?_) (fun i k hi hk hP hm => ?_) hf
  · refine (fdB_iff (by omega)).2 (.inl ?_)
    rw [h.h hi]
    rcases Classical.em (0 ≤ (gvH c S (c.h S).1 i).2) with h1 | h1
    · rw [(gvH_wait h1).1] at h1; omega
    · omega
  · refine (fdB_iff (by omega)).2 ?_
    rw [h.h hi]
    rcases Classical.em (0 ≤ (gvH c S (c.h S).1 i).2) with h1 | h1
    · right
      obtain ⟨e, hne⟩ := gvH_wait h1
      rw [e] at h1 ⊢
      obtain ⟨g, hg⟩ := Int.eq_ofNat_of_zero_le h1
      have hg5 : g < 5 := by have := (v.wr i hi).2; omega
      rw [hg] at hm ⊢
      rcases Classical.em (k = S) with ek | ek
      · -- the one who gives back: the first who waits has it now
        subst ek
        cases hfw : fw c (g : Int) with
        | none => exact absurd hg (fw_none hfw i hi)
        | some k0 =>
          obtain ⟨hk0, hw0, _⟩ := fw_some hfw
          have hne0 : k0 ≠ k := fun e => by subst e; have := h.w; omega
          refine ⟨k0, by omega, (fdB_iff (by omega)).2 (.inl ?_), ?_⟩
          · rw [h.h hk0]
            unfold gvH
            rw [if_neg hne0, hw0, if_pos ⟨hm, hfw⟩]
            simp
          · rw [h.h hk0, ← hasB_iff, gvH_has v hk0 hg5, if_neg hne0, hasB_iff.2 hm, hfw]
            simp
      · refine ⟨k, by omega, hP, ?_⟩
        rw [h.h hk, ← hasB_iff, gvH_has v hk hg5, if_neg ek, hasB_iff.2 hm]
        rfl
    · left; omega

theorem GiveOk.stuck {c out : Cr} {s : Int} {S : Nat} (h : GiveOk c s out S) {i : Nat} (hi : (i : Int) ∈ stuL out) : (i : Int) ∈ stuL c := by
  rw [mem_stuL] at hi ⊢
  refine ⟨by rw [← h.n]; exact hi.1, ?_⟩
  cases hf : fdB c i with
  | false => rfl
  | true => rw [h.freer hf] at hi; cases hi.2

theorem stuR_yes {c : Cr} (v : Vc c) : stuR c = stuL c := if_pos (crB_true.2 v)
/-- P91, as it is looked at -/
theorem stuck_rule {c : Cr} {i : Nat} (hi : i < c.hs.length) : ((c.h i).2 < 0 ∨ ∃ k, k < c.hs.length ∧ (c.h i).2 ∈ (c.h k).1 ∧ (k : Int) ∉ stuL c) ↔ (i : Int) ∉ stuL c := by
  have h1 : (i : Int) ∉ stuL c ↔ fdB c i = true := by
    rw [mem_stuL]
    cases fdB c i <;> simp [hi]
  rw [h1, fdB_iff hi]
  constructor
  · rintro (h | ⟨k, hk, h, h2⟩)
    · exact .inl h
    · refine .inr ⟨k, hk, ?_, h⟩
      rw [mem_stuL] at h2
      cases hf : fdB c k with
      | true => rfl
      | false => exact absurd ⟨hk, hf⟩ h2
  · rintro (h | ⟨k, hk, h, h2⟩)
    · exact .inl h
    · exact .inr ⟨k, hk, h2, fun h3 => by rw [mem_stuL, h] at h3; cases h3.2⟩

/-! ### new credits -/
theorem new_valid {fr : List Int} {n : Nat} (hf : frB fr = true) (h1 : 1 ≤ n) (h6 : n ≤ 6) : Vc ⟨fr, List.replicate n ([], -1)⟩ := by
  obtain ⟨f1, f2⟩ := frB_true.1 hf
  have hh : ∀ i, Cr.h ⟨fr, List.replicate n ([], -1)⟩ i = ([], -1) := fun i => by
    unfold Cr.h
    rw [List.getD_eq_getElem?_getD, List.getElem?_replicate]
    split <;> rfl
  refine ⟨f1, by simpa using h1, by simpa using h6, f2, fun i _ => by rw [hh]; rfl, fun i _ => by rw [hh]; simp, fun i _ h => by rw [hh] at h; simp at h, fun i _ h => by rw [hh] at h; simp at h⟩

theorem new_h {fr : List Int} {n i : Nat} : Cr.h ⟨fr, List.replicate n ([], -1)⟩ i = ([], -1) := by
  unfold Cr.h
  rw [List.getD_eq_getElem?_getD, List.getElem?_replicate]
  split <;> rfl

theorem new_ordered {fr : List Int} {n : Nat} : Od ⟨fr, List.replicate n ([], -1)⟩ := fun i hi hw => by rw [new_h] at hw; simp at hw

theorem new_free {fr : List Int} {n : Nat} : stuL ⟨fr, List.replicate n ([], -1)⟩ = [] :=
  stuL_nil fun i hi => (fdB_iff hi).2 (.inl (by rw [new_h]; simp))

/-! ### a credit taken and given back -/
theorem round_trip {c out : Cr} {s g : Int} {S G : Nat} (h : AskOk c s g out S G) (hh : (c.h S).1 = []) (h0 : 0 < c.f G) : giveR out s = (c, true) := by
  have v := h.v
  have vo := h.valid
  have hGl : G < c.fr.length := by rw [v.fl]; exact h.hG
  rcases h.o with ⟨_, rfl⟩ | ⟨h1, _⟩
  · have hS' : S < (tak c S G).hs.length := by rw [tak_n.1]; exact h.hS
    have hhS : (tak c S G).h S = ([(G : Int)], -1) := by
      rw [tak_h h.hS, if_pos rfl, hh, unionL_nil (by have := h.hG; omega)]
    have hfG : (tak c S G).f G = c.f G - 1 := by rw [tak_f hGl, if_pos rfl]
    have h9 := (v.fr G h.hG).2
    unfold giveR
    rw [if_pos (sdB_true.2 ⟨vo, by rw [h.es]; omega, by rw [h.es]; omega⟩), h.es]
    simp only [Int.toNat_natCast]
    rw [hhS, if_neg (by simp), if_neg (by simp [fulB, hfG]; omega)]
    congr 1
    rw [give_run vo hS' (by rw [hhS]; simp) _ (by simp) (fun x hx => by rw [List.mem_singleton] at hx; subst hx; have := h.hG; omega)]
    have hfw : fw (tak c S G) (G : Int) = none := by
      cases hf : fw (tak c S G) (G : Int) with
      | none => rfl
      | some k =>
        obtain ⟨hk, hw, _⟩ := fw_some hf
        rw [tak_n.1] at hk
        rw [tak_h h.hS] at hw
        split at hw
        · simp at hw
        · have := v.wf k hk (by omega)
          rw [hw] at this
          simp at this; omega
    refine Cr.ext' mkC_5 v.fl (by rw [mkC_n, tak_n.1]) (fun q hq => ?_) (fun i hi => ?_)
    · rw [mkC_f hq]
      unfold gvF
      by_cases e : q = G
      · subst e
        rw [if_pos ⟨by simp, hfw⟩, hfG]; omega
      · rw [if_neg (fun k => e (by have := k.1; simp at this; omega)), tak_f hGl, if_neg e]
    · rw [mkC_n, tak_n.1] at hi
      rw [mkC_h (by rw [tak_n.1]; exact hi)]
      unfold gvH
      by_cases e : i = S
      · subst e
        rw [if_pos rfl]
        have h3 := h.w
        have h4 := v.wr i hi
        have h5 : (c.h i).2 = -1 := by omega
        rw [← hh, ← h5]
      · have h6 : (tak c S G).h i = c.h i := by rw [tak_h h.hS, if_neg e]
        rw [if_neg e, h6, if_neg]
        rintro ⟨h7, h8⟩
        simp at h7
        rw [h7] at h8
        rw [hfw] at h8; cases h8
  · omega
end Go.Proofs.Ytfcoobebebdniaa
