/-
  Who waits, as a line: mathematics of the list that the program keeps. No condition.
-/
import Derived.Test.YtgeihcbiahnnaaaCdD
namespace Go.Proofs.Ytgeihcbiahnnaaa
open Go.RowKit
set_option linter.unusedVariables false
set_option linter.unusedSimpArgs false

/-- those of the first n senders that are in D, each with the group for which it waits -/
def gl (H : Nat → Ho) (D : Nat → Bool) (n : Nat) : List (Int × Int) := ((List.range n).filter D).map fun (i : Nat) => ((i : Int), (H i).2)

def offB (D : Nat → Bool) (k : Nat) : Nat → Bool := fun j => if j = k then false else D j

theorem gl_succ {H : Nat → Ho} {D : Nat → Bool} {n : Nat} : gl H D (n + 1) = gl H D n ++ (if D n then [((n : Int), (H n).2)] else []) := by
  unfold gl
  rw [List.range_succ, List.filter_append, List.map_append]
  congr 1
  cases h : D n <;> simp [h]

theorem gl_congr {H H' : Nat → Ho} {D D' : Nat → Bool} {n : Nat} (h : ∀ i, i < n → D i = D' i) (h2 : ∀ i, i < n → D i = true → (H i).2 = (H' i).2) : gl H D n = gl H' D' n := by
  induction n with
  | zero => rfl
  | succ n ih =>
    rw [gl_succ, gl_succ, ih (fun i hi => h i (by omega)) (fun i hi => h2 i (by omega)), ← h n (by omega)]
    congr 1
    cases e : D n with
    | false => rfl
    | true => simp [h2 n (by omega) e]

theorem gl_mem {H : Nat → Ho} {D : Nat → Bool} {n i : Nat} (hi : i < n) (hD : D i = true) : ((i : Int), (H i).2) ∈ gl H D n := by
  unfold gl
  rw [List.mem_map]
  exact ⟨i, List.mem_filter.2 ⟨List.mem_range.2 hi, hD⟩, rfl⟩

theorem mem_gl {H : Nat → Ho} {D : Nat → Bool} {n : Nat} {x : Int × Int} (h : x ∈ gl H D n) : ∃ i, i < n ∧ D i = true ∧ x = ((i : Int), (H i).2) := by
  unfold gl at h
  rw [List.mem_map] at h
  obtain ⟨i, h1, h2⟩ := h
  rw [List.mem_filter] at h1
  exact ⟨i, List.mem_range.1 h1.1, h1.2, h2.symm⟩
/-- one of them taken out -/
theorem gl_out {H : Nat → Ho} {D : Nat → Bool} : ∀ {n k : Nat} {a b : Int}, (gl H D n)[k]? = some (a, b) →
    ∃ i : Nat, a = (i : Int) ∧ i < n ∧ D i = true ∧ b = (H i).2 ∧ (gl H D n).eraseIdx k = gl H (offB D i) n ∧ ∀ j : Nat, j < i → D j = true → ∃ q, q < k ∧ (gl H D n)[q]? = some ((j : Int), (H j).2)
  | 0, k, a, b, h => by simp [gl] at h
  | n + 1, k, a, b, h => by
    rw [gl_succ] at h
    rcases Nat.lt_or_ge k (gl H D n).length with hl | hl
    · rw [List.getElem?_append_left hl] at h
      obtain ⟨i, h1, h2, h3, h4, h5, h6⟩ := gl_out h
      refine ⟨i, h1, by omega, h3, h4, ?_, fun j hj dj => ?_⟩
      · rw [gl_succ, gl_succ, List.eraseIdx_append_of_lt_length hl, h5]
        congr 1
        have : offB D i n = D n := by simp [offB]; omega
        rw [this]
      · obtain ⟨q, hq, e⟩ := h6 j hj dj
        refine ⟨q, hq, ?_⟩
        rw [gl_succ, List.getElem?_append_left (by omega)]
        exact e
    · rw [List.getElem?_append_right hl] at h
      cases hD : D n with
      | false => rw [hD] at h; simp at h
      | true =>
        rw [hD] at h
        simp only [if_true] at h
        have hk0 : k - (gl H D n).length = 0 := by
          have := (List.getElem?_eq_some_iff.1 h).1
          simp at this; omega
        rw [hk0] at h
        simp at h
        have hk : k = (gl H D n).length := by omega
        refine ⟨n, h.1.symm, by omega, hD, h.2.symm, ?_, fun j hj dj => ?_⟩
        · rw [gl_succ, gl_succ, hD]
          have h1 : offB D n n = false := by simp [offB]
          rw [h1, hk, List.eraseIdx_append_of_length_le (Nat.le_refl _)]
          simp
          exact gl_congr (fun i hi => by simp [offB]; omega) (fun _ _ _ => rfl)
        · obtain ⟨q, hq, e⟩ := List.getElem_of_mem (gl_mem (H := H) hj dj)
          exact ⟨q, by omega, by rw [gl_succ, List.getElem?_append_left hq, List.getElem?_eq_getElem hq, e]⟩

theorem gl_fst {H : Nat → Ho} {D : Nat → Bool} {n : Nat} : (gl H D n).map (fun x => x.1) = ((List.range n).filter D).map fun (i : Nat) => (i : Int) := by
  unfold gl; rw [List.map_map]; rfl

theorem gl_len {H : Nat → Ho} {D : Nat → Bool} {n : Nat} : (gl H D n).length ≤ n := by
  unfold gl
  rw [List.length_map]
  exact Nat.le_trans (List.length_filter_le _ _) (by simp)

/-- who waits -/
def wtB (c : Cr) (k : Nat) : Bool := decide (0 ≤ (c.h k).2)
/-- the senders of D that wait in vain: when nobody of D can get a credit from someone outside -/
theorem stuck_end {c : Cr} {D : Nat → Bool} (h1 : ∀ i, i < c.hs.length → D i = true → 0 ≤ (c.h i).2) (h2 : ∀ i, i < c.hs.length → D i = false → fdB c i = true)
    (h3 : ∀ i k, i < c.hs.length → k < c.hs.length → D i = true → (c.h i).2 ∈ (c.h k).1 → D k = true) : ∀ i, i < c.hs.length → D i = !fdB c i := by
  intro i hi
  have key : ∀ j, fdB c j = true → D j = false := fun j hj => by
    refine fdB_ind (c := c) (P := fun j => D j = false) (fun i hi hw => ?_) (fun i k hi hk pk hm => ?_) hj
    · cases e : D i with
      | false => rfl
      | true => have := h1 i hi e; omega
    · cases e : D i with
      | false => rfl
      | true => have := h3 i k hi hk e hm; rw [pk] at this; cases this
  cases e : fdB c i with
  | true => rw [key i e]; rfl
  | false =>
    cases e2 : D i with
    | true => rfl
    | false => rw [h2 i hi e2] at e; cases e

theorem stuck_line {c : Cr} {D : Nat → Bool} (h : ∀ i, i < c.hs.length → D i = !fdB c i) : (gl c.h D c.hs.length).map (fun x => x.1) = stuL c := by
  rw [gl_fst]
  unfold stuL
  congr 1
  apply List.filter_congr
  intro i hi
  rw [h i (List.mem_range.1 hi)]
/-- one leaves: a sender outside has a credit of its group -/
theorem leave_free {c : Cr} {D : Nat → Bool} {i k : Nat} (h2 : ∀ i, i < c.hs.length → D i = false → fdB c i = true) (hi : i < c.hs.length) (hk : k < c.hs.length) (hm : (c.h i).2 ∈ (c.h k).1) (hD : D k = false) :
    ∀ j, j < c.hs.length → offB D i j = false → fdB c j = true := by
  intro j hj h
  unfold offB at h
  split at h
  · rename_i e
    subst e
    exact (fdB_iff hj).2 (.inr ⟨k, hk, h2 k hk hD, hm⟩)
  · exact h2 j hj h

/-- what the program does with one group that is given back -/
def sv1 (c : Cr) (g : Nat) : Cr := match fw c (g : Int) with
  | some k => ⟨c.fr, c.hs.set k (unionL (c.h k).1 [(g : Int)], -1)⟩
  | none => inc c g

theorem serv_sv1 {c : Cr} {g : Nat} (h5 : c.fr.length = 5) (hg : g < 5) (h0 : ∀ k, k < c.hs.length → (c.h k).2 = (g : Int) → c.f g = 0) : serv c g = sv1 c g := by
  have e := eq_mkC h5
  unfold sv1
  cases hf : fw c (g : Int) with
  | none =>
    have hno := fw_none hf
    have := servTo_none (F := c.f) (H := c.h) (n := c.hs.length) hg hno c.hs.length (Nat.le_refl _)
    rw [← e] at this
    show servTo c g c.hs.length = _
    rw [this]
    have h2 := inc_mkC (F := c.f) (H := c.h) (n := c.hs.length) hg
    rw [← e] at h2
    exact h2.symm
  | some k =>
    obtain ⟨hk, hw, hno⟩ := fw_some hf
    have := servTo_some (F := c.f) (H := c.h) (n := c.hs.length) hg hk hw hno (h0 k hk hw) c.hs.length (Nat.le_refl _)
    rw [← e] at this
    show servTo c g c.hs.length = _
    rw [this, if_neg (by omega)]
    refine Cr.ext' mkC_5 h5 (by simp [mkC_n]) (fun q hq => by rw [mkC_f hq]; rfl) (fun i hi => ?_)
    rw [mkC_n] at hi
    rw [mkC_h hi]
    show _ = (c.hs.set k _).getD i ([], -1)
    rw [getD_set hk]
    unfold upd
    split <;> rfl
end Go.Proofs.Ytgeihcbiahnnaaa
