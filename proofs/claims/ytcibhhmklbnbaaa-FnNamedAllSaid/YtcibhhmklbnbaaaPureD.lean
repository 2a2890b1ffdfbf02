/-
  Plain mathematics of linked groups: closed, with a reason, the same from each, growing.
-/
import Derived.Test.YtcibhhmklbnbaaaPureC
namespace Go.Proofs.Ytcibhhmklbnbaaa

theorem subM_iff {s t : Nat} : subM s t ↔ ∀ i, s.testBit i = true → t.testBit i = true := by
  unfold subM
  constructor
  · intro h i hi
    rw [← h, Nat.testBit_or, hi, Bool.true_or]
  · intro h
    apply Nat.eq_of_testBit_eq
    intro i
    rw [Nat.testBit_or]
    cases hs : s.testBit i with
    | false => rfl
    | true => rw [h i hs]; rfl

theorem subM_anti {s t : Nat} (h : subM s t) (k : subM t s) : s = t := by
  unfold subM at *
  rw [← h, Nat.or_comm]; exact k.symm

theorem meet_iff {s t : Nat} : s &&& t ≠ 0 ↔ ∃ i, s.testBit i = true ∧ t.testBit i = true := by
  constructor
  · intro h
    obtain ⟨i, hi⟩ := Nat.exists_testBit_of_ne_zero h
    rw [Nat.testBit_and, Bool.and_eq_true] at hi
    exact ⟨i, hi⟩
  · rintro ⟨i, h1, h2⟩ e
    have : (s &&& t).testBit i = true := by rw [Nat.testBit_and, h1, h2]; rfl
    rw [e, Nat.zero_testBit] at this
    cases this

def ClosedM (ms : List Nat) (t : Nat) : Prop := ∀ m, m ∈ ms → t &&& m ≠ 0 → subM m t

theorem closed_of_fix : ∀ {ms : List Nat} {s : Nat}, pass ms s = s → ClosedM ms s := by
  intro ms
  induction ms with
  | nil => intro s _ m hm; simp at hm
  | cons m r ih =>
    intro s h
    have h' : pass r (stepM s m) = s := h
    have e : stepM s m = s := by
      have h1 := subM_step s m
      have h2 := subM_pass r (stepM s m)
      rw [h'] at h2
      exact subM_anti h2 h1
    rw [e] at h'
    intro x hx hne
    rcases List.mem_cons.1 hx with rfl | hx
    · rw [stepM_def, if_neg hne] at e
      unfold subM
      rw [Nat.or_comm]; exact e
    · exact ih h' x hx hne

theorem step_in {s m t : Nat} (hs : subM s t) (hc : t &&& m ≠ 0 → subM m t) : subM (stepM s m) t := by
  unfold stepM
  split
  · exact hs
  · rename_i h
    obtain ⟨i, h1, h2⟩ := meet_iff.1 h
    have hm := hc (meet_iff.2 ⟨i, subM_iff.1 hs i h1, h2⟩)
    rw [subM_iff] at *
    intro j hj
    rw [Nat.testBit_or, Bool.or_eq_true] at hj
    rcases hj with hj | hj
    · exact hs j hj
    · exact hm j hj

theorem pass_in {t : Nat} : ∀ {ms : List Nat} {s : Nat}, ClosedM ms t → subM s t → subM (pass ms s) t := by
  intro ms
  induction ms with
  | nil => intro s _ h; exact h
  | cons m r ih => intro s hc h; exact ih (fun x hx => hc x (by simp [hx])) (step_in h (hc m (by simp)))

theorem passes_in {ms : List Nat} {t : Nat} (hc : ClosedM ms t) : ∀ (f : Nat) {s : Nat}, subM s t → subM (passes ms f s) t := by
  intro f
  induction f with
  | zero => intro s h; exact h
  | succ f ih => intro s h; exact ih (pass_in hc h)

theorem subM_passes (ms : List Nat) : ∀ (f s : Nat), subM s (passes ms f s) := by
  intro f
  induction f with
  | zero => intro s; exact Nat.or_self s
  | succ f ih => intro s; exact subM_trans (subM_pass ms s) (ih _)

section
variable {zss : List (List Int)} {x : Int}

theorem link_lt (h1 : setsB zss = true) (h2 : grB x = true) : linkM zss x < 32 := passes_lt (masks_lt h1) 5 (pow_lt32 h2)

theorem link_closed (h1 : setsB zss = true) (h2 : grB x = true) : ClosedM (masks zss) (linkM zss x) :=
  closed_of_fix (passes_fix (masks_lt h1) 5 (2 ^ x.toNat) (pow_lt32 h2) (by omega))

theorem link_self : (linkM zss x).testBit x.toNat = true := by
  have h := subM_iff.1 (subM_passes (masks zss) 5 (2 ^ x.toNat)) x.toNat
  exact h (by rw [Nat.testBit_two_pow]; simp)

theorem link_min {t : Nat} (hc : ClosedM (masks zss) t) (hx : t.testBit x.toNat = true) : subM (linkM zss x) t := by
  refine passes_in hc 5 (subM_iff.2 fun i hi => ?_)
  rw [Nat.testBit_two_pow] at hi
  have : x.toNat = i := by simpa using hi
  rw [← this]; exact hx

/-- from each linked group the same groups are linked -/
theorem link_same (h1 : setsB zss = true) (h2 : grB x = true) {z : Int} (hz0 : grB z = true) (hz : (linkM zss x).testBit z.toNat = true) : linkM zss z = linkM zss x := by
  have c1 := link_closed h1 h2
  have c2 := link_closed (zss := zss) h1 hz0
  refine subM_anti (link_min c1 hz) ?_
  cases hx : (linkM zss z).testBit x.toNat with
  | true => exact link_min c2 hx
  | false =>
    exfalso
    let d := (linkM zss x) &&& (31 ^^^ linkM zss z)
    have lz := link_lt (x := z) h1 hz0
    have lx := link_lt h1 h2
    have t31 : ∀ i, i < 5 → (31 : Nat).testBit i = true := by decide
    have small : ∀ (m i : Nat), m < 32 → m.testBit i = true → i < 5 := by
      intro m i hm hi
      rcases Nat.lt_or_ge i 5 with h | h
      · exact h
      · have h3 : m < 2 ^ i := Nat.lt_of_lt_of_le (show m < 2 ^ 5 from hm) (Nat.pow_le_pow_right (by decide) h)
        rw [Nat.testBit_lt_two_pow h3] at hi
        cases hi
    have dbit : ∀ i, d.testBit i = true ↔ (linkM zss x).testBit i = true ∧ (linkM zss z).testBit i = false := by
      intro i
      show ((linkM zss x) &&& (31 ^^^ linkM zss z)).testBit i = true ↔ _
      rw [Nat.testBit_and, Bool.and_eq_true, Nat.testBit_xor]
      constructor
      · rintro ⟨a, b⟩
        rw [t31 i (small _ i lx a)] at b
        exact ⟨a, by simpa using b⟩
      · rintro ⟨a, b⟩
        rw [t31 i (small _ i lx a), b]
        exact ⟨a, rfl⟩
    have hd : ClosedM (masks zss) d := by
      intro m hm hne
      obtain ⟨i, hi, him⟩ := meet_iff.1 hne
      obtain ⟨ia, ib⟩ := (dbit i).1 hi
      have hmx := c1 m hm (meet_iff.2 ⟨i, ia, him⟩)
      rw [subM_iff]
      intro j hj
      rw [dbit]
      refine ⟨subM_iff.1 hmx j hj, ?_⟩
      cases hzj : (linkM zss z).testBit j with
      | false => rfl
      | true =>
        have hmz := c2 m hm (meet_iff.2 ⟨j, hzj, hj⟩)
        rw [subM_iff.1 hmz i him] at ib
        cases ib
    have hmin := link_min hd ((dbit _).2 ⟨link_self, hx⟩)
    have := ((dbit _).1 (subM_iff.1 hmin _ hz)).2
    rw [link_self] at this
    cases this

/-- each linked group but the first is in a set that is linked whole -/
def ReasonM (ms : List Nat) (x s : Nat) : Prop := ∀ i, s.testBit i = true → i = x ∨ ∃ m, m ∈ ms ∧ m.testBit i = true ∧ subM m s

theorem reason_step {ms : List Nat} {g s m : Nat} (hm : m ∈ ms) (h : ReasonM ms g s) : ReasonM ms g (stepM s m) := by
  have hsub := subM_step s m
  intro i hi
  by_cases hz : s &&& m = 0
  · have e : stepM s m = s := by rw [stepM_def, if_pos hz]
    rw [e] at hi ⊢; exact h i hi
  · have e : stepM s m = s ||| m := by rw [stepM_def, if_neg hz]
    have hm2 : subM m (stepM s m) := by rw [e, subM_iff]; intro j hj; rw [Nat.testBit_or, hj, Bool.or_true]
    rw [e, Nat.testBit_or, Bool.or_eq_true] at hi
    rcases hi with hi | hi
    · rcases h i hi with h0 | ⟨y, hy, hyi, hys⟩
      · exact .inl h0
      · exact .inr ⟨y, hy, hyi, subM_trans hys hsub⟩
    · exact .inr ⟨m, hm, hi, hm2⟩

theorem reason_pass {ms : List Nat} {g : Nat} : ∀ {r : List Nat} {s : Nat}, (∀ m, m ∈ r → m ∈ ms) → ReasonM ms g s → ReasonM ms g (pass r s) := by
  intro r
  induction r with
  | nil => intro s _ h; exact h
  | cons m r ih => intro s hr h; exact ih (fun y hy => hr y (by simp [hy])) (reason_step (hr m (by simp)) h)

theorem reason_passes {ms : List Nat} {g : Nat} : ∀ (f : Nat) {s : Nat}, ReasonM ms g s → ReasonM ms g (passes ms f s) := by
  intro f
  induction f with
  | zero => intro s h; exact h
  | succ f ih => intro s h; exact ih (reason_pass (fun _ h => h) h)

theorem link_reason : ReasonM (masks zss) x.toNat (linkM zss x) := by
  refine reason_passes 5 fun i hi => ?_
  rw [Nat.testBit_two_pow] at hi
  left
  have : x.toNat = i := by simpa using hi
  exact this.symm

theorem goodB_true (h : goodB zss x = true) : setsB zss = true ∧ grB x = true := by simpa [goodB] using h

theorem linked_good (h : 0 < (linkedR zss x).length) : goodB zss x = true := by
  cases hg : goodB zss x with
  | true => rfl
  | false => simp [linkedR, hg] at h

theorem mk_elemsM {m : Nat} (hm : m < 32) : mk (elemsM m) = m := by
  have h : ∀ m, m < 32 → mk (elemsM m) = m := by decide +kernel
  exact h m hm
/-- the common groups of a mask's elements and a valid set -/
theorem common_elems {t : Nat} (ht : t < 32) {zs : List Int} (hv : gvalid zs = true) : commonR (elemsM t) zs = elemsM (t &&& mk zs) := by
  by_cases h0 : t = 0
  · subst h0
    have e : elemsM 0 = [] := by decide +kernel
    rw [e, commonR_no1 gvalid_nil, Nat.zero_and, e]
  · have hpos : ∀ t, t < 32 → t ≠ 0 → 0 < (elemsM t).length := by decide +kernel
    have hv1 := gvalid_elemsM (hpos t ht h0)
    rw [commonR_elems (pairB_yes hv1 hv), pairL_yes hv1 hv, pairR_yes hv1 hv, maskR_yes hv1, maskR_yes hv, mk_elemsM ht]

theorem sub_and {s t : Nat} (h : subM s t) : t &&& s = s := by
  apply Nat.eq_of_testBit_eq
  intro i
  rw [Nat.testBit_and]
  cases hs : s.testBit i with
  | false => rw [Bool.and_false]
  | true => rw [subM_iff.1 h i hs]; rfl
/-- a set that meets what is linked is linked whole -/
theorem linked_closed (h1 : setsB zss = true) (h2 : grB x = true) {k : Nat} (hk : k < zss.length) (hne : 0 < (commonR (linkedR zss x) (zss.getD k [])).length) :
    (commonR (linkedR zss x) (zss.getD k [])).length = (zss.getD k []).length := by
  have hv := setsB_get h1 hk
  have lx := link_lt h1 h2
  rw [linkedR_yes h1 h2, common_elems lx hv] at *
  have hne2 : linkM zss x &&& mk (zss.getD k []) ≠ 0 := by
    intro e
    rw [e] at hne
    have e0 : elemsM 0 = [] := by decide +kernel
    rw [e0] at hne
    simp at hne
  have hm : mk (zss.getD k []) ∈ masks zss := by
    rw [masks]
    have : zss.getD k [] = zss[k] := by simp [hk]
    rw [this]
    exact List.mem_map_of_mem (List.getElem_mem hk)
  have hs := link_closed h1 h2 _ hm hne2
  rw [sub_and hs, ← gvalid_elems hv]
/-- with a further set no fewer groups are linked -/
theorem setsB_snoc {s : List Int} (h1 : setsB zss = true) (hs : gvalid s = true) (hl : zss.length < 12) : setsB (zss ++ [s]) = true := by
  simp only [setsB, Bool.and_eq_true, List.all_append, List.all_cons, List.all_nil, hs, Bool.and_true, decide_eq_true_eq, List.length_append, List.length_cons, List.length_nil] at *
  exact ⟨h1.1, by omega⟩

theorem link_grow {s : List Int} (h1 : setsB zss = true) (h2 : grB x = true) (hs : gvalid s = true) (hl : zss.length < 12) : subM (linkM zss x) (linkM (zss ++ [s]) x) := by
  have c := link_closed (setsB_snoc h1 hs hl) h2
  refine link_min (fun m hm => c m ?_) link_self
  rw [masks, List.map_append]
  exact List.mem_append_left _ hm

theorem linked_grow {s : List Int} (h1 : setsB zss = true) (h2 : grB x = true) (hs : gvalid s = true) (hl : zss.length < 12) :
    commonR (linkedR zss x) (linkedR (zss ++ [s]) x) = linkedR zss x := by
  have h1' := setsB_snoc h1 hs hl
  have l1 := link_lt h1 h2
  have l2 := link_lt h1' h2
  rw [linkedR_yes h1 h2, linkedR_yes h1' h2]
  have hpos : 0 < (elemsM (linkM (zss ++ [s]) x)).length := by
    have : x ∈ elemsM (linkM (zss ++ [s]) x) := by
      obtain ⟨a, b⟩ := grB_true.1 h2
      rw [elemsM_mem]; exact ⟨by omega, link_self⟩
    exact List.length_pos_of_mem this
  rw [common_elems l1 (gvalid_elemsM hpos), mk_elemsM l2, Nat.and_comm, sub_and (link_grow h1 h2 hs hl)]
end

end Go.Proofs.Ytcibhhmklbnbaaa
