/-
  The program's breadth-first search as mathematics: what its line and its array of origins mean in terms of the model's search. No condition.
-/
import Derived.Test.YtdhafappclcijaaTrA
namespace Go.Proofs.Ytdhafappclcijaa
set_option linter.unusedVariables false
set_option linter.unusedSimpArgs false

def fsts (L : List Be) : List Int := L.map fun e => e.1
/-- a place of the array of origins set -/
def upR (R : Nat → Option Nat) (k x : Nat) : Nat → Option Nat := fun j => if j = k then some x else R j
/-- the origins are those of the entries -/
def RofL (f : Nat) (L : List Be) (R : Nat → Option Nat) : Prop :=
  ∀ k, k < 12 → k ≠ f → ((k : Int) ∈ fsts L → R k = some (parB L (k : Int)).toNat) ∧ ((k : Int) ∉ fsts L → R k = none)
/-- a search that has not come back yet -/
structure S1 (nx : Int → Int → Bool) (f n i : Nat) (L : List Be) (Q : List Nat) (R : Nat → Option Nat) : Prop where
  pb : PB (f : Int) L
  q : (Q.map fun (k : Nat) => (k : Int)) = fsts (L.drop i)
  r : RofL f L R
  rf : R f = none
  way : pathB nx (f : Int) = bfsB nx (f : Int) n i L
  ni : n + i = 13
/-- a search that has come back -/
def S2 (nx : Int → Int → Bool) (f : Nat) (R : Nat → Option Nat) : Prop :=
  ∃ (L : List Be) (j x : Nat) (p : Int) (d : Nat), PB (f : Int) L ∧ L[j]? = some ((x : Int), p, d) ∧ pathB nx (f : Int) = (f : Int) :: recB L d (x : Int) [] ∧ R f = some x ∧
    ∀ k, k < 12 → k ≠ f → (k : Int) ∈ fsts L → R k = some (parB L (k : Int)).toNat
/-- within a row -/
structure S1r (nx : Int → Int → Bool) (f n i : Nat) (x d m : Nat) (L : List Be) (Q : List Nat) (R : Nat → Option Nat) : Prop where
  pb : PB (f : Int) (rowTo nx x d m L)
  at_ : ∃ p, L[i]? = some ((x : Int), p, d)
  pre : ∃ N, rowTo nx x d m L = L ++ N
  q : (Q.map fun (k : Nat) => (k : Int)) = fsts ((rowTo nx x d m L).drop (i + 1))
  r : RofL f (rowTo nx x d m L) R
  rf : R f = none
  way : pathB nx (f : Int) = if nx (x : Int) (f : Int) then (f : Int) :: recB L d (x : Int) [] else bfsB nx (f : Int) n (i + 1) (rowB nx x d msg12 L)
  ni : n + (i + 1) = 13
  no : f < m → nx (x : Int) (f : Int) = false
  pb0 : PB (f : Int) L

variable {nx : Int → Int → Bool} {f n i x d m : Nat} {L : List Be} {Q : List Nat} {R : Nat → Option Nat}

theorem S1.start (hf : f < 12) : S1 nx f 13 0 [((f : Int), -1, 0)] [f] (fun _ => none) where
  pb := PB.start (by omega)
  q := rfl
  r := fun k hk hkf => ⟨fun h => by simp [fsts] at h; omega, fun _ => rfl⟩
  rf := rfl
  way := rfl
  ni := rfl

theorem PB.len {L : List Be} (h : PB (f : Int) L) : L.length ≤ 12 := by
  have := nodup_len h.nd (m := msg12) (fun x hx => by
    obtain ⟨e, he, rfl⟩ := List.mem_map.1 hx
    exact mem_msg12.2 (h.rng e he))
  simpa [msg12] using this
/-- the next of the line -/
theorem S1.row (h : S1 nx f n i L (x :: Q) R) : ∃ n' d, n = n' + 1 ∧ S1r nx f n' i x d 0 L Q R := by
  have hq := h.q
  have hil : i < L.length := by
    rcases Nat.lt_or_ge i L.length with h1 | h1
    · exact h1
    · rw [List.drop_of_length_le h1] at hq; simp [fsts] at hq
  have h12 := h.pb.len
  rw [List.drop_eq_getElem_cons hil] at hq
  simp only [fsts, List.map_cons, List.cons.injEq] at hq
  obtain ⟨hx, hq⟩ := hq
  obtain ⟨⟨y, p, d⟩, he⟩ : ∃ e, L[i] = e := ⟨_, rfl⟩
  rw [he] at hx
  simp only at hx
  subst hx
  have hat : L[i]? = some ((x : Int), p, d) := List.getElem?_eq_some_iff.2 ⟨hil, he⟩
  obtain ⟨n', rfl⟩ : ∃ n', n = n' + 1 := ⟨n - 1, by have := h.ni; omega⟩
  refine ⟨n', d, rfl, ⟨h.pb, ⟨p, hat⟩, ⟨[], by simp [rowTo]⟩, hq, h.r, h.rf, ?_, by have := h.ni; omega, fun h => by omega, h.pb⟩⟩
  rw [h.way]
  show (match L[i]? with | none => [] | some (x, _, d) => if nx x (f : Int) then (f : Int) :: recB L d x [] else bfsB nx (f : Int) n' (i + 1) (rowB nx x d msg12 L)) = _
  rw [hat]

theorem mem_f {L : List Be} (h : PB (f : Int) L) : (f : Int) ∈ fsts L := List.mem_map.2 ⟨_, List.mem_of_getElem? h.hd, rfl⟩

theorem S1r.x12 (h : S1r nx f n i x d m L Q R) : x < 12 := by
  obtain ⟨p, hp⟩ := h.at_
  have := h.pb0.rng _ (List.mem_of_getElem? hp)
  simp only at this
  omega

theorem S1r.entry (h : S1r nx f n i x d m L Q R) : ∃ p, (rowTo nx x d m L)[i]? = some ((x : Int), p, d) := by
  obtain ⟨p, hp⟩ := h.at_
  obtain ⟨N, hN⟩ := h.pre
  exact ⟨p, by rw [hN, List.getElem?_append_left (List.getElem?_eq_some_iff.1 hp).1]; exact hp⟩

theorem S1r.il (h : S1r nx f n i x d m L Q R) : i + 1 ≤ (rowTo nx x d m L).length := by
  obtain ⟨p, hp⟩ := h.entry
  exact (List.getElem?_eq_some_iff.1 hp).1
/-- nothing new at message m -/
theorem S1r.skip (h : S1r nx f n i x d m L Q R) (hm : m < 12) (hs : nx (x : Int) (m : Int) = false ∨ R m ≠ none) : S1r nx f n i x d (m + 1) L Q R := by
  have hv : rowTo nx x d (m + 1) L = rowTo nx x d m L := by
    rw [rowTo_succ]
    refine visB_no ?_
    rcases hs with hs | hs
    · exact .inl hs
    · refine .inr ?_
      by_cases e : m = f
      · subst e; exact absurd h.rf hs
      · rcases Classical.em ((m : Int) ∈ fsts (rowTo nx x d m L)) with h1 | h1
        · exact h1
        · exact absurd ((h.r m hm e).2 h1) hs
  refine ⟨by rw [hv]; exact h.pb, h.at_, by rw [hv]; exact h.pre, by rw [hv]; exact h.q, by rw [hv]; exact h.r, h.rf, h.way, h.ni, fun hf => ?_, h.pb0⟩
  by_cases e : m = f
  · subst e
    rcases hs with hs | hs
    · exact hs
    · exact absurd h.rf hs
  · exact h.no (by omega)

theorem upR_same {k x : Nat} : upR R k x k = some x := by simp [upR]

theorem upR_other {k x j : Nat} (h : j ≠ k) : upR R k x j = R j := by simp [upR, h]
/-- a new message, not the first -/
theorem S1r.add (h : S1r nx f n i x d m L Q R) (hm : m < 12) (hmf : m ≠ f) (hx : nx (x : Int) (m : Int) = true) (hR : R m = none) : S1r nx f n i x d (m + 1) L (Q ++ [m]) (upR R m x) := by
  have hni : (m : Int) ∉ fsts (rowTo nx x d m L) := fun h1 => by
    have := (h.r m hm hmf).1 h1
    rw [hR] at this; cases this
  have hv : rowTo nx x d (m + 1) L = rowTo nx x d m L ++ [((m : Int), (x : Int), d + 1)] := by
    rw [rowTo_succ]; exact visB_yes hx hni
  obtain ⟨p, hp⟩ := h.entry
  have hil := h.il
  refine ⟨?_, h.at_, ?_, ?_, ?_, by rw [upR_other (Ne.symm hmf)]; exact h.rf, h.way, h.ni, fun hf => h.no (by omega), h.pb0⟩
  · rw [hv]
    exact h.pb.snoc hp hni (by omega) (by omega)
  · obtain ⟨N, hN⟩ := h.pre
    exact ⟨N ++ [((m : Int), (x : Int), d + 1)], by rw [hv, hN, List.append_assoc]⟩
  · rw [hv, List.drop_append_of_le_length hil, List.map_append, h.q]
    simp [fsts]
  · rw [hv]
    intro k hk hkf
    by_cases e : k = m
    · subst e
      refine ⟨fun _ => ?_, fun h1 => absurd (by simp [fsts]) h1⟩
      rw [upR_same, parB_snoc hni, if_pos rfl]
      simp
    · have hc : ¬ ((k : Int) = (m : Int)) := by omega
      rw [upR_other e]
      refine ⟨fun h1 => ?_, fun h1 => (h.r k hk hkf).2 (fun h2 => h1 (by simp [fsts] at h2 ⊢; exact .inl h2))⟩
      have h2 : (k : Int) ∈ fsts (rowTo nx x d m L) := by
        simp only [fsts, List.map_append, List.mem_append] at h1
        rcases h1 with h1 | h1
        · exact h1
        · simp at h1; omega
      rw [parB_snoc hni, if_neg hc]
      exact (h.r k hk hkf).1 h2
/-- back at the first -/
theorem S1r.back (h : S1r nx f n i x d f L Q R) (hf : f < 12) (hx : nx (x : Int) (f : Int) = true) : S2 nx f (upR R f x) := by
  obtain ⟨p, hp⟩ := h.entry
  obtain ⟨p0, hp0⟩ := h.at_
  obtain ⟨N, hN⟩ := h.pre
  refine ⟨rowTo nx x d f L, i, x, p, d, h.pb, hp, ?_, upR_same, fun k hk hkf h1 => ?_⟩
  · rw [h.way, if_pos hx, hN]
    congr 1
    have hnd := h.pb.nd
    rw [hN] at hnd
    exact (recB_pre h.pb0 hnd d i (x : Int) p0 [] hp0).symm
  · rw [upR_other hkf]; exact (h.r k hk hkf).1 h1

theorem S2.add (h : S2 nx f R) {k y : Nat} (hR : R k = none) : S2 nx f (upR R k y) := by
  obtain ⟨L, j, x, p, d, h1, h2, h3, h4, h5⟩ := h
  have hkf : k ≠ f := fun e => by subst e; rw [h4] at hR; cases hR
  refine ⟨L, j, x, p, d, h1, h2, h3, by rw [upR_other (Ne.symm hkf)]; exact h4, fun q hq hqf hm => ?_⟩
  have : q ≠ k := fun e => by subst e; have := h5 q hq hqf hm; rw [hR] at this; cases this
  rw [upR_other this]; exact h5 q hq hqf hm
/-- the row's end -/
theorem S1r.done (h : S1r nx f n i x d 12 L Q R) (hf : f < 12) : S1 nx f n (i + 1) (rowB nx x d msg12 L) Q R where
  pb := by rw [← rowTo_12]; exact h.pb
  q := by rw [← rowTo_12]; exact h.q
  r := by rw [← rowTo_12]; exact h.r
  rf := h.rf
  way := by rw [h.way, h.no hf]; rfl
  ni := h.ni
/-- either of the two -/
def Sst (nx : Int → Int → Bool) (f : Nat) (Q : List Nat) (R : Nat → Option Nat) : Prop := (∃ n i L, S1 nx f n i L Q R) ∨ S2 nx f R

def Srow (nx : Int → Int → Bool) (f x m : Nat) (Q : List Nat) (R : Nat → Option Nat) : Prop := (∃ n i d L, S1r nx f n i x d m L Q R) ∨ S2 nx f R

theorem Sst.start (hf : f < 12) : Sst nx f [f] (fun _ => none) := .inl ⟨_, _, _, S1.start hf⟩

theorem Sst.row (h : Sst nx f (x :: Q) R) : Srow nx f x 0 Q R := by
  rcases h with ⟨n, i, L, h⟩ | h
  · obtain ⟨n', d, _, h1⟩ := h.row
    exact .inl ⟨_, _, _, _, h1⟩
  · exact .inr h

theorem Srow.skip (h : Srow nx f x m Q R) (hm : m < 12) (hs : nx (x : Int) (m : Int) = false ∨ R m ≠ none) : Srow nx f x (m + 1) Q R := by
  rcases h with ⟨n, i, d, L, h⟩ | h
  · exact .inl ⟨_, _, _, _, h.skip hm hs⟩
  · exact .inr h

theorem Srow.add (h : Srow nx f x m Q R) (hm : m < 12) (hx : nx (x : Int) (m : Int) = true) (hR : R m = none) : Srow nx f x (m + 1) (Q ++ [m]) (upR R m x) := by
  rcases h with ⟨n, i, d, L, h⟩ | h
  · by_cases e : m = f
    · subst e; exact .inr (h.back hm hx)
    · exact .inl ⟨_, _, _, _, h.add hm e hx hR⟩
  · exact .inr (h.add hR)

theorem Srow.done (h : Srow nx f x 12 Q R) (hf : f < 12) : Sst nx f Q R := by
  rcases h with ⟨n, i, d, L, h⟩ | h
  · exact .inl ⟨_, _, _, h.done hf⟩
  · exact .inr h

theorem Sst.end_ (h : Sst nx f [] R) : (R f = none ∧ pathB nx (f : Int) = []) ∨ S2 nx f R := by
  rcases h with ⟨n, i, L, h⟩ | h
  · refine .inl ⟨h.rf, ?_⟩
    rw [h.way]
    have hq := h.q
    have hil : L.length ≤ i := by
      rcases Nat.lt_or_ge i L.length with h1 | h1
      · rw [List.drop_eq_getElem_cons h1] at hq; simp [fsts] at hq; omega
      · exact h1
    cases n with
    | zero => rfl
    | succ n =>
      show (match L[i]? with | none => [] | some (x, _, d) => _) = _
      rw [List.getElem?_eq_none hil]
  · exact .inr h
/-- how many have not been reached -/
def nnR (R : Nat → Option Nat) : Nat := ((List.range 12).map fun k => if (R k).isNone then 1 else 0).sum

theorem nnR_start (f : Nat) : [f].length + nnR (fun _ => none) ≤ 13 := by
  have h : nnR (fun _ => none) = 12 := by decide
  rw [h]; simp

theorem nnR_up {k x : Nat} (hk : k < 12) (hR : R k = none) : nnR (upR R k x) + 1 = nnR R := by
  have key : ∀ l : List Nat, l.Nodup → k ∈ l → (l.map fun j => if (upR R k x j).isNone then 1 else 0).sum + 1 = (l.map fun j => if (R j).isNone then 1 else 0).sum := by
    intro l
    induction l with
    | nil => intro _ h; cases h
    | cons a l ih =>
      intro hn hm
      rw [List.nodup_cons] at hn
      by_cases e : a = k
      · subst e
        have : (l.map fun j => if (upR R a x j).isNone then 1 else 0) = (l.map fun j => if (R j).isNone then 1 else 0) :=
          List.map_congr_left fun j hj => by rw [upR_other (fun e => by subst e; exact hn.1 hj)]
        rw [List.map_cons, List.map_cons, List.sum_cons, List.sum_cons, this, upR_same, hR]
        simp; omega
      · have hm' : k ∈ l := by
          rcases List.mem_cons.1 hm with h | h
          · exact absurd h.symm e
          · exact h
        have := ih hn.2 hm'
        rw [List.map_cons, List.map_cons, List.sum_cons, List.sum_cons, upR_other e]
        omega
  exact key _ List.nodup_range (by simpa using hk)

/-! ### the way back -/
/-- on the way back from a search that has come back: the way so far, and where it stands -/
def Back (nx : Int → Int → Bool) (f : Nat) (R : Nat → Option Nat) (acc : List Int) (y : Nat) : Prop :=
  ∃ (L : List Be) (j : Nat) (p : Int) (d : Nat), PB (f : Int) L ∧ L[j]? = some ((y : Int), p, d) ∧ pathB nx (f : Int) = (f : Int) :: recB L d (y : Int) acc ∧
    ∀ k, k < 12 → k ≠ f → (k : Int) ∈ fsts L → R k = some (parB L (k : Int)).toNat

theorem S2.back (h : S2 nx f R) : ∃ x, R f = some x ∧ Back nx f R [] x := by
  obtain ⟨L, j, x, p, d, h1, h2, h3, h4, h5⟩ := h
  exact ⟨x, h4, L, j, p, d, h1, h2, h3, h5⟩

theorem Back.y12 {acc : List Int} {y : Nat} (h : Back nx f R acc y) : y < 12 := by
  obtain ⟨L, j, p, d, h1, h2, -⟩ := h
  have := h1.rng _ (List.mem_of_getElem? h2)
  simp only at this
  omega

theorem Back.done {acc : List Int} (h : Back nx f R acc f) : pathB nx (f : Int) = (f : Int) :: acc := by
  obtain ⟨L, j, p, d, h1, h2, h3, h4⟩ := h
  have := (h1.zero h2).1 rfl
  subst this
  exact h3

theorem Back.step {acc : List Int} {y : Nat} (h : Back nx f R acc y) (hy : y ≠ f) : ∃ z, R y = some z ∧ Back nx f R ((y : Int) :: acc) z := by
  have hy12 := h.y12
  obtain ⟨L, j, p, d, h1, h2, h3, h4⟩ := h
  have hd : d ≠ 0 := fun e => hy (by have := (h1.zero h2).2 e; omega)
  have hj : 0 < j := by
    rcases Nat.eq_zero_or_pos j with h0 | h0
    · subst h0
      rw [h1.hd] at h2
      injection h2 with h2
      injection h2 with h2 _
      omega
    · exact h0
  obtain ⟨hp, d', j', q, e, hq⟩ := h1.ent j _ p d h2 hj
  subst e
  have hpar := parB_of h1.nd h2
  have hR := h4 y hy12 hy (List.mem_map.2 ⟨_, List.mem_of_getElem? h2, rfl⟩)
  rw [hpar] at hR
  obtain ⟨z, rfl⟩ := Int.eq_ofNat_of_zero_le hp.1
  refine ⟨z, by simpa using hR, L, j', q, d', h1, hq, ?_, h4⟩
  rw [h3]
  show (f : Int) :: recB L d' (parB L (y : Int)) ((y : Int) :: acc) = _
  rw [hpar]

theorem Back.short {acc : List Int} {y : Nat} (h : Back nx f R acc y) (hr : Rng nx) (hf : f < 12) : acc.length ≤ 11 := by
  obtain ⟨L, j, p, d, h1, h2, h3, h4⟩ := h
  have hl : (pathB nx (f : Int)).length ≤ 12 := by
    rcases pathB_way (f := (f : Int)) hr (by omega) with ⟨h, _⟩ | ⟨_, h, _, h5, _⟩
    · rw [h]; simp
    · have := nodup_len h (m := msg12) (fun x hx => mem_msg12.2 (h5 x hx))
      simpa [msg12] using this
  rw [h3] at hl
  simp only [List.length_cons] at hl
  rw [recB_len] at hl
  omega
/-- a message that nothing follows, or that is in no trace, is in no cycle -/
theorem path_none (hr : Rng nx) (hf : f < 12) (h : ∀ b, nx (f : Int) b = false) : pathB nx (f : Int) = [] := by
  rcases pathB_way (f := (f : Int)) hr (by omega) with ⟨h1, _⟩ | ⟨h1, _, h2, _, _⟩
  · exact h1
  · exfalso
    have hl := (List.getElem?_eq_some_iff.1 h1).1
    have hlt : (0 + 1) % (pathB nx (f : Int)).length < (pathB nx (f : Int)).length := Nat.mod_lt _ hl
    have := h2 0 _ _ h1 (List.getElem?_eq_getElem hlt)
    rw [h] at this; cases this
end Go.Proofs.Ytdhafappclcijaa
