/-
  Plain mathematics of sets of groups, more: what common and united groups contain; a list that is ascending and in range is valid.
-/
import Derived.Test.YteagmkhpfmiaiaaMgA
namespace Go.Proofs.Yteagmkhpfmiaiaa

theorem gvalid_of {zs : List Int} (hne : 0 < zs.length) (ha : zs.Pairwise (· < ·)) (hr : ∀ z, z ∈ zs → 0 ≤ z ∧ z ≤ 4) : gvalid zs = true := by
  rw [gvalid_of_all, decide_eq_true_eq]
  · exact hne
  · intro i hi
    rw [List.pairwise_iff_getElem] at ha
    have hg : grB (zs.getD i 0) = true := by
      rw [grB_true]
      have := hr zs[i] (List.getElem_mem hi)
      simpa [hi] using this
    rw [okAt, hg, Bool.true_and, Bool.or_eq_true]
    by_cases h0 : i = 0
    · left; simpa using h0
    · right
      have := ha (i - 1) i (by omega) hi (by omega)
      have h1 : i - 1 < zs.length := by omega
      simpa [hi, h1] using this

theorem gvalid_elemsM {m : Nat} (h : 0 < (elemsM m).length) : gvalid (elemsM m) = true :=
  gvalid_of h (elemsM_asc m) fun z hz => by rw [elemsM_mem] at hz; omega

theorem hasB_elemsM {m : Nat} {k : Nat} (hk : k < 5) : hasB (elemsM m) (k : Int) = m.testBit k := by
  rw [Bool.eq_iff_iff, hasB_iff, elemsM_mem, Int.toNat_natCast]
  constructor
  · exact fun h => h.2
  · exact fun h => ⟨by omega, h⟩

theorem hasB_valid {zs : List Int} (h : gvalid zs = true) {k : Nat} (hk : k < 5) : hasB zs (k : Int) = (mk zs).testBit k := by
  have := hasB_elemsM (m := mk zs) hk
  rwa [← gvalid_elems h] at this

theorem commonR_has {xs ys : List Int} (h1 : gvalid xs = true) (h2 : gvalid ys = true) {k : Nat} (hk : k < 5) : hasB (commonR xs ys) (k : Int) = (hasB xs (k : Int) && hasB ys (k : Int)) := by
  rw [commonR_elems (pairB_yes h1 h2), hasB_elemsM hk, hasB_valid h1 hk, hasB_valid h2 hk, Nat.testBit_and, pairL_yes h1 h2, pairR_yes h1 h2, maskR_yes h1, maskR_yes h2]

theorem unionR_has {xs ys : List Int} (h1 : gvalid xs = true) (h2 : gvalid ys = true) {k : Nat} (hk : k < 5) : hasB (unionR xs ys) (k : Int) = (hasB xs (k : Int) || hasB ys (k : Int)) := by
  rw [unionR_elems (pairB_yes h1 h2), hasB_elemsM hk, hasB_valid h1 hk, hasB_valid h2 hk, Nat.testBit_or, pairL_yes h1 h2, pairR_yes h1 h2, maskR_yes h1, maskR_yes h2]

theorem commonR_comm (xs ys : List Int) : commonR ys xs = commonR xs ys := by
  cases h : pairB xs ys with
  | false =>
    have h' : pairB ys xs = false := by rw [← h]; simp [pairB, Bool.and_comm]
    rw [commonR_no h, commonR_no h']
  | true =>
    obtain ⟨h1, h2⟩ := pairB_true h
    rw [commonR_elems h, commonR_elems (pairB_yes h2 h1), pairL_yes h1 h2, pairR_yes h1 h2, pairL_yes h2 h1, pairR_yes h2 h1, Nat.and_comm]

theorem commonR_valid {xs ys : List Int} (h : 0 < (commonR xs ys).length) : gvalid (commonR xs ys) = true := by
  cases hp : pairB xs ys with
  | false => rw [commonR_no hp] at h; simp at h
  | true => rw [commonR_elems hp] at h ⊢; exact gvalid_elemsM h

theorem unionR_valid {xs ys : List Int} (h : 0 < (unionR xs ys).length) : gvalid (unionR xs ys) = true := by
  cases hp : pairB xs ys with
  | false => rw [unionR_no hp] at h; simp at h
  | true => rw [unionR_elems hp] at h ⊢; exact gvalid_elemsM h

end Go.Proofs.Yteagmkhpfmiaiaa
