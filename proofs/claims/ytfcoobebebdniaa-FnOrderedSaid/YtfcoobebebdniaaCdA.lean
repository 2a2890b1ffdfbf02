/-
  Plain mathematics of credits: no program. What valid credits are, what asking and giving back answer, who is stuck.
-/
import Derived.Test.YtfcoobebebdniaaPureB
namespace Go.Proofs.Ytfcoobebebdniaa
set_option linter.unusedVariables false
set_option linter.unusedSimpArgs false

/-- a sender: the groups from which it has a credit, and for which it waits -/
abbrev Ho := List Int × Int
/-- credits: the free ones of each group, and the senders -/
structure Cr where
  fr : List Int
  hs : List Ho

def Cr.f (c : Cr) (g : Nat) : Int := c.fr.getD g 0

def Cr.h (c : Cr) (i : Nat) : Ho := c.hs.getD i ([], -1)

def cr0 : Cr := ⟨[], []⟩

/-! ### sets -/
def setB (xs : List Int) : Bool := decide (xs.length = 0) || gvalid xs

theorem setB_true {xs : List Int} : setB xs = true ↔ (xs.Pairwise (· < ·) ∧ ∀ z ∈ xs, 0 ≤ z ∧ z ≤ 4) := by
  unfold setB
  rw [Bool.or_eq_true, decide_eq_true_eq]
  constructor
  · rintro (h | h)
    · have := List.eq_nil_of_length_eq_zero h
      subst this
      exact ⟨List.Pairwise.nil, fun z hz => by cases hz⟩
    · exact ⟨gvalid_asc h, fun z hz => gvalid_mem h hz⟩
  · rintro ⟨h1, h2⟩
    rcases Nat.eq_zero_or_pos xs.length with h | h
    · exact .inl h
    · exact .inr (gvalid_of h h1 h2)

theorem unionL_mem {xs : List Int} {g z : Int} : z ∈ unionL xs [g] ↔ ((0 ≤ z ∧ z ≤ 4) ∧ (z ∈ xs ∨ z = g)) := by
  rw [unionL, List.mem_filter, grps_mem, Bool.or_eq_true, hasB_iff, hasB_iff, List.mem_singleton]
  constructor
  · rintro ⟨⟨h0, h1⟩, h⟩; exact ⟨⟨h0, by omega⟩, h⟩
  · rintro ⟨⟨h0, h1⟩, h⟩; exact ⟨⟨h0, by omega⟩, h⟩

theorem unionL_set (xs ys : List Int) : setB (unionL xs ys) = true :=
  setB_true.2 ⟨(grps_asc 5).filter _, fun z hz => by
    rw [unionL, List.mem_filter, grps_mem] at hz
    exact ⟨hz.1.1, by omega⟩⟩

theorem unionL_nil {g : Int} (h : 0 ≤ g ∧ g ≤ 4) : unionL [] [g] = [g] :=
  asc_ext ((grps_asc 5).filter _) (List.pairwise_singleton _ _) fun z => by
    show z ∈ unionL [] [g] ↔ _
    rw [unionL_mem]
    simp
    omega

theorem set_len {xs : List Int} (h : setB xs = true) : xs.length ≤ 5 := by
  obtain ⟨h1, h2⟩ := setB_true.1 h
  have e : xs = (grps 5).filter fun g => hasB xs g := asc_ext h1 ((grps_asc 5).filter _) fun z => by
    rw [List.mem_filter, grps_mem, hasB_iff]
    exact ⟨fun h => ⟨⟨(h2 z h).1, by have := (h2 z h).2; omega⟩, h⟩, fun h => h.2⟩
  rw [e]; exact grps_len _ 5

theorem set_nodup {xs : List Int} (h : setB xs = true) : xs.Nodup := (setB_true.1 h).1.imp fun h e => by omega

/-! ### valid credits -/
def frB (fr : List Int) : Bool := fr.all (fun x => inB x 0 9) && decide (fr.length = 5)

def hoB (fr : List Int) (h : Ho) : Bool := setB h.1 && inB h.2 (-1) 4 && !(decide (0 ≤ h.2) && (decide (0 < fr.getD h.2.toNat 0) || hasB h.1 h.2))

def crB (c : Cr) : Bool := frB c.fr && inB c.hs.length 1 6 && c.hs.all (hoB c.fr)
/-- valid credits, said plainly -/
structure Vc (c : Cr) : Prop where
  fl : c.fr.length = 5
  n1 : 1 ≤ c.hs.length
  n6 : c.hs.length ≤ 6
  fr : ∀ g, g < 5 → 0 ≤ c.f g ∧ c.f g ≤ 9
  set : ∀ i, i < c.hs.length → setB (c.h i).1 = true
  wr : ∀ i, i < c.hs.length → -1 ≤ (c.h i).2 ∧ (c.h i).2 ≤ 4
  wf : ∀ i, i < c.hs.length → 0 ≤ (c.h i).2 → c.f (c.h i).2.toNat = 0
  wh : ∀ i, i < c.hs.length → 0 ≤ (c.h i).2 → (c.h i).2 ∉ (c.h i).1

theorem getD_at {α : Type} {l : List α} {i : Nat} {d x : α} (h : l[i]? = some x) : l.getD i d = x := by
  rw [List.getD_eq_getElem?_getD, h]; rfl

theorem h_at {c : Cr} {i : Nat} {x : Ho} (h : c.hs[i]? = some x) : c.h i = x := getD_at h

theorem at_h {c : Cr} {i : Nat} (h : i < c.hs.length) : c.hs[i]? = some (c.h i) := by
  rw [Cr.h, List.getD_eq_getElem?_getD, List.getElem?_eq_getElem h]; rfl

theorem at_f {c : Cr} {g : Nat} (h : g < c.fr.length) : c.fr[g]? = some (c.f g) := by
  rw [Cr.f, List.getD_eq_getElem?_getD, List.getElem?_eq_getElem h]; rfl

theorem frB_true {fr : List Int} : frB fr = true ↔ (fr.length = 5 ∧ ∀ g, g < 5 → 0 ≤ fr.getD g 0 ∧ fr.getD g 0 ≤ 9) := by
  unfold frB
  rw [Bool.and_eq_true, decide_eq_true_eq, List.all_eq_true]
  constructor
  · rintro ⟨h1, h2⟩
    refine ⟨h2, fun g hg => ?_⟩
    rw [List.getD_eq_getElem?_getD, List.getElem?_eq_getElem (by omega)]
    exact inB_true.1 (h1 _ (List.getElem_mem _))
  · rintro ⟨h1, h2⟩
    refine ⟨fun x hx => ?_, h1⟩
    obtain ⟨g, hg, rfl⟩ := List.getElem_of_mem hx
    have := h2 g (by omega)
    rw [List.getD_eq_getElem?_getD, List.getElem?_eq_getElem hg] at this
    exact inB_true.2 this

theorem hoB_true {fr : List Int} {h : Ho} : hoB fr h = true ↔ (setB h.1 = true ∧ (-1 ≤ h.2 ∧ h.2 ≤ 4) ∧ (0 ≤ h.2 → ¬ 0 < fr.getD h.2.toNat 0 ∧ h.2 ∉ h.1)) := by
  unfold hoB
  rw [Bool.and_eq_true, Bool.and_eq_true, inB_true, Bool.not_eq_true', Bool.and_eq_false_iff, decide_eq_false_iff_not, Bool.or_eq_false_iff, decide_eq_false_iff_not, ← Bool.not_eq_true (hasB _ _), hasB_iff, and_assoc]
  constructor
  · rintro ⟨h1, h2, h3⟩
    refine ⟨h1, h2, fun h0 => ?_⟩
    rcases h3 with h3 | h3
    · exact absurd h0 h3
    · exact h3
  · rintro ⟨h1, h2, h3⟩
    refine ⟨h1, h2, ?_⟩
    rcases Classical.em (0 ≤ h.2) with h0 | h0
    · exact .inr (h3 h0)
    · exact .inl h0

theorem crB_true {c : Cr} : crB c = true ↔ Vc c := by
  unfold crB
  rw [Bool.and_eq_true, Bool.and_eq_true, frB_true, inB_true, List.all_eq_true]
  constructor
  · rintro ⟨⟨⟨h1, h2⟩, h3, h4⟩, h5⟩
    have key : ∀ i, i < c.hs.length → hoB c.fr (c.h i) = true := fun i hi => h5 _ (List.mem_of_getElem? (at_h hi))
    refine ⟨h1, by omega, by omega, h2, fun i hi => (hoB_true.1 (key i hi)).1, fun i hi => (hoB_true.1 (key i hi)).2.1, fun i hi h0 => ?_, fun i hi h0 => ((hoB_true.1 (key i hi)).2.2 h0).2⟩
    have k := (hoB_true.1 (key i hi)).2
    have k2 := h2 (c.h i).2.toNat (by omega)
    have k3 := (k.2 h0).1
    show c.fr.getD _ 0 = 0
    omega
  · intro v
    refine ⟨⟨⟨v.fl, v.fr⟩, by have := v.n1; omega, by have := v.n6; omega⟩, fun x hx => ?_⟩
    obtain ⟨i, hi, rfl⟩ := List.getElem_of_mem hx
    have e : c.h i = c.hs[i] := h_at (List.getElem?_eq_getElem hi)
    rw [← e]
    refine hoB_true.2 ⟨v.set i hi, v.wr i hi, fun h0 => ⟨?_, v.wh i hi h0⟩⟩
    have := v.wf i hi h0
    show ¬ 0 < c.fr.getD _ 0
    rw [Cr.f] at this
    omega

/-! ### the answers -/
def crNew (fr : List Int) (n : Int) : Cr × Bool := if frB fr && inB n 1 6 then (⟨fr, List.replicate n.toNat ([], -1)⟩, true) else (cr0, false)
/-- a free credit given to a sender -/
def tak (c : Cr) (s g : Nat) : Cr := ⟨c.fr.set g (c.f g - 1), c.hs.set s (unionL (c.h s).1 [(g : Int)], -1)⟩

def sdB (c : Cr) (s : Int) : Bool := crB c && inB s 0 ((c.hs.length : Int) - 1)

def askR (c : Cr) (s g : Int) : Cr × Bool :=
  if sdB c s && grB g then
    if 0 ≤ (c.h s.toNat).2 ∨ hasB (c.h s.toNat).1 g = true then (c, false)
    else if 0 < c.f g.toNat then (tak c s.toNat g.toNat, true)
    else (⟨c.fr, c.hs.set s.toNat ((c.h s.toNat).1, g)⟩, true)
  else (cr0, false)

def servA (g : Nat) (c : Cr) (k : Nat) : Cr := if 0 < c.f g ∧ (c.h k).2 = (g : Int) then tak c k g else c

def inc (c : Cr) (g : Nat) : Cr := ⟨c.fr.set g (c.f g + 1), c.hs⟩
/-- a credit of g that comes back: to the first k senders -/
def servTo (c : Cr) (g k : Nat) : Cr := (List.range k).foldl (servA g) (inc c g)

def serv (c : Cr) (g : Nat) : Cr := servTo c g c.hs.length

def clr (c : Cr) (s : Nat) : Cr := ⟨c.fr, c.hs.set s ([], -1)⟩

def giveTo (c : Cr) (s : Nat) (gs : List Int) : Cr := gs.foldl (fun c g => serv c g.toNat) (clr c s)

def fulB (c : Cr) (gs : List Int) : Bool := gs.any fun g => decide (9 ≤ c.f g.toNat)

def giveR (c : Cr) (s : Int) : Cr × Bool :=
  if sdB c s then
    if 0 ≤ (c.h s.toNat).2 ∨ (c.h s.toNat).1.length = 0 then (c, false)
    else if fulB c (c.h s.toNat).1 then (c, false)
    else (giveTo c s.toNat (c.h s.toNat).1, true)
  else (cr0, false)
/-- is the sender in order? -/
def ohB (h : Ho) : Bool := !(decide (0 ≤ h.2) && decide (0 < h.1.length) && decide (h.2 < h.1.getD (h.1.length - 1) 0))

def orB (c : Cr) : Bool := crB c && c.hs.all ohB
/-- not stuck, seen in r rounds -/
def fdN (c : Cr) : Nat → Nat → Bool
  | 0, i => decide (i < c.hs.length) && decide ((c.h i).2 < 0)
  | r + 1, i => fdN c r i || (decide (i < c.hs.length) && (List.range c.hs.length).any fun k => fdN c r k && hasB (c.h k).1 (c.h i).2)

def fdB (c : Cr) (i : Nat) : Bool := fdN c c.hs.length i

def stuL (c : Cr) : List Int := ((List.range c.hs.length).filter fun i => !fdB c i).map fun (i : Nat) => (i : Int)

def stuR (c : Cr) : List Int := if crB c then stuL c else []

/-! ### who is not stuck -/
theorem fdN_mono {c : Cr} {i : Nat} : ∀ {r r' : Nat}, r ≤ r' → fdN c r i = true → fdN c r' i = true := by
  intro r r' h
  induction h with
  | refl => exact id
  | step _ ih => intro h; show (fdN c _ i || _) = true; rw [ih h]; rfl

theorem fdN_lt {c : Cr} {i : Nat} : ∀ {r : Nat}, fdN c r i = true → i < c.hs.length := by
  intro r
  induction r with
  | zero => intro h; simp [fdN] at h; exact h.1
  | succ r ih =>
    intro h
    simp only [fdN, Bool.or_eq_true, Bool.and_eq_true, decide_eq_true_eq] at h
    rcases h with h | h
    · exact ih h
    · exact h.1

def cntF (n : Nat) (p : Nat → Bool) : Nat := ((List.range n).filter p).length

theorem cntF_le (n : Nat) (p : Nat → Bool) : cntF n p ≤ n := by
  have := List.length_filter_le p (List.range n)
  simpa [cntF] using this

theorem cntF_grow {n : Nat} {p q : Nat → Bool} (h : ∀ i, p i = true → q i = true) {j : Nat} (hj : j < n) (h1 : p j = false) (h2 : q j = true) : cntF n p < cntF n q := by
  unfold cntF
  have key : ∀ l : List Nat, (l.filter p).length ≤ (l.filter q).length ∧ (j ∈ l → (l.filter p).length < (l.filter q).length) := by
    intro l
    induction l with
    | nil => exact ⟨Nat.le_refl _, fun h => by cases h⟩
    | cons a l ih =>
      rw [List.filter_cons, List.filter_cons]
      cases hp : p a with
      | true =>
        rw [if_pos rfl, if_pos (h a hp)]
        refine ⟨by simp; exact ih.1, fun hm => ?_⟩
        have : a ≠ j := fun e => by subst e; rw [h1] at hp; cases hp
        rcases List.mem_cons.1 hm with hm | hm
        · exact absurd hm.symm this
        · simp; exact ih.2 hm
      | false =>
        rw [if_neg (by simp)]
        cases hq : q a with
        | true =>
          rw [if_pos rfl]
          exact ⟨by simp; have := ih.1; omega, fun _ => by simp; have := ih.1; omega⟩
        | false =>
          rw [if_neg (by simp)]
          refine ⟨ih.1, fun hm => ?_⟩
          rcases List.mem_cons.1 hm with hm | hm
          · subst hm; rw [h2] at hq; cases hq
          · exact ih.2 hm
  exact (key _).2 (by simpa using hj)

theorem fdN_stable {c : Cr} {r : Nat} (h : ∀ i, fdN c (r + 1) i = true → fdN c r i = true) : ∀ (m i : Nat), fdN c (r + m) i = true → fdN c r i = true := by
  intro m
  induction m with
  | zero => exact fun i h => h
  | succ m ih =>
    intro i hi
    rw [show r + (m + 1) = (r + m) + 1 by omega] at hi
    simp only [fdN, Bool.or_eq_true, Bool.and_eq_true, decide_eq_true_eq, List.any_eq_true, List.mem_range] at hi
    rcases hi with hi | ⟨h1, k, hk, h2, h3⟩
    · exact ih i hi
    · refine h i ?_
      simp only [fdN, Bool.or_eq_true, Bool.and_eq_true, decide_eq_true_eq, List.any_eq_true, List.mem_range]
      exact .inr ⟨h1, k, hk, ih k h2, h3⟩

theorem fdN_full (c : Cr) (r i : Nat) (h : fdN c r i = true) : fdB c i = true := by
  -- some round among the first n + 1 adds nobody
  have key : ∀ m, m ≤ c.hs.length + 1 → (∃ r, r < m ∧ ∀ i, fdN c (r + 1) i = true → fdN c r i = true) ∨ m ≤ cntF c.hs.length (fdN c m) := by
    intro m
    induction m with
    | zero => exact fun _ => .inr (Nat.zero_le _)
    | succ m ih =>
      intro hm
      rcases ih (by omega) with ⟨r, h1, h2⟩ | h1
      · exact .inl ⟨r, by omega, h2⟩
      · rcases Classical.em (∀ i, fdN c (m + 1) i = true → fdN c m i = true) with h2 | h2
        · exact .inl ⟨m, by omega, h2⟩
        · right
          obtain ⟨j, h3⟩ := Classical.not_forall.1 h2
          obtain ⟨h4, h5⟩ := Classical.not_imp.1 h3
          have := cntF_grow (n := c.hs.length) (p := fdN c m) (q := fdN c (m + 1)) (fun i h => fdN_mono (Nat.le_succ _) h) (fdN_lt h4) (by simpa using h5) h4
          omega
  rcases key (c.hs.length + 1) (Nat.le_refl _) with ⟨r0, h1, h2⟩ | h1
  · have h3 : fdN c r0 i = true := by
      rcases Nat.le_total r r0 with h4 | h4
      · exact fdN_mono h4 h
      · exact fdN_stable h2 (r - r0) i (by rw [show r0 + (r - r0) = r by omega]; exact h)
    exact fdN_mono (by omega) h3
  · have := cntF_le c.hs.length (fdN c (c.hs.length + 1))
    omega
/-- the rule, read both ways -/
theorem fdB_iff {c : Cr} {i : Nat} (hi : i < c.hs.length) : fdB c i = true ↔ ((c.h i).2 < 0 ∨ ∃ k, k < c.hs.length ∧ fdB c k = true ∧ (c.h i).2 ∈ (c.h k).1) := by
  constructor
  · intro h
    have key : ∀ r i, fdN c r i = true → ((c.h i).2 < 0 ∨ ∃ k, k < c.hs.length ∧ fdB c k = true ∧ (c.h i).2 ∈ (c.h k).1) := by
      intro r
      induction r with
      | zero => intro i h; simp [fdN] at h; exact .inl h.2
      | succ r ih =>
        intro i h
        simp only [fdN, Bool.or_eq_true, Bool.and_eq_true, decide_eq_true_eq, List.any_eq_true, List.mem_range, hasB_iff] at h
        rcases h with h | ⟨h1, k, hk, h2, h3⟩
        · exact ih i h
        · exact .inr ⟨k, hk, fdN_full c r k h2, h3⟩
    exact key _ i h
  · rintro (h | ⟨k, hk, h1, h2⟩)
    · exact fdN_full c 0 i (by simp [fdN, hi, h])
    · refine fdN_full c (c.hs.length + 1) i ?_
      simp only [fdN, Bool.or_eq_true, Bool.and_eq_true, decide_eq_true_eq, List.any_eq_true, List.mem_range, hasB_iff]
      exact .inr ⟨hi, k, hk, h1, h2⟩
/-- what the rule leads to, nothing else -/
theorem fdB_ind {c : Cr} {P : Nat → Prop} (h0 : ∀ i, i < c.hs.length → (c.h i).2 < 0 → P i) (h1 : ∀ i k, i < c.hs.length → k < c.hs.length → P k → (c.h i).2 ∈ (c.h k).1 → P i) {i : Nat} (h : fdB c i = true) : P i := by
  have key : ∀ r i, fdN c r i = true → P i := by
    intro r
    induction r with
    | zero => intro i h; simp [fdN] at h; exact h0 i h.1 h.2
    | succ r ih =>
      intro i h
      simp only [fdN, Bool.or_eq_true, Bool.and_eq_true, decide_eq_true_eq, List.any_eq_true, List.mem_range, hasB_iff] at h
      rcases h with h | ⟨h2, k, hk, h3, h4⟩
      · exact ih i h
      · exact h1 i k h2 hk (ih k h3) h4
  exact key _ i h

theorem mem_stuL {c : Cr} {i : Nat} : (i : Int) ∈ stuL c ↔ (i < c.hs.length ∧ fdB c i = false) := by
  unfold stuL
  rw [List.mem_map]
  constructor
  · rintro ⟨k, hk, e⟩
    have : k = i := by omega
    subst this
    simpa using hk
  · intro h
    exact ⟨i, by simpa using h, rfl⟩

theorem stuL_len (c : Cr) : (stuL c).length ≤ c.hs.length := by
  unfold stuL
  rw [List.length_map]
  have := List.length_filter_le (fun i => !fdB c i) (List.range c.hs.length)
  simpa using this

theorem stuR_len (c : Cr) : (stuR c).length ≤ 6 := by
  unfold stuR
  split
  · rename_i h
    have := (crB_true.1 h).n6
    have := stuL_len c
    omega
  · simp
end Go.Proofs.Ytfcoobebebdniaa
