/-
  Plain mathematics of a valid set without one group, and with one twice.
-/
import Derived.Test.YtdahnideolaniaaPureB
namespace Go.Proofs.Ytdahnideolaniaa

theorem less_valid {zs : List Int} {k : Nat} (hv : gvalid zs = true) (hk : k < zs.length) : gvalid (zs.take k ++ zs.drop (k + 1)) = decide (1 < zs.length) := by
  have hl : (zs.take k ++ zs.drop (k + 1)).length = zs.length - 1 := by
    rw [List.length_append, List.length_take, List.length_drop]; omega
  by_cases h1 : 1 < zs.length
  · have ha : (zs.take k ++ zs.drop (k + 1)).Pairwise (· < ·) := by
      have hs : (zs.take k ++ zs.drop (k + 1)).Sublist zs := by
        have h2 : (zs.drop (k + 1)).Sublist (zs.drop k) := List.drop_sublist_drop_left zs (by omega)
        have h3 := List.Sublist.append (List.Sublist.refl (zs.take k)) h2
        rwa [List.take_append_drop] at h3
      exact (gvalid_asc hv).sublist hs
    rw [gvalid_of (by omega) ha]
    · simp [h1]
    · intro z hz
      rw [List.mem_append] at hz
      rcases hz with hz | hz
      · exact gvalid_mem hv (List.mem_of_mem_take hz)
      · exact gvalid_mem hv (List.mem_of_mem_drop hz)
  · have h0 : zs.take k ++ zs.drop (k + 1) = [] := List.eq_nil_of_length_eq_zero (by omega)
    rw [h0, gvalid_nil]
    simp [h1]
theorem twice_invalid {zs : List Int} {k : Nat} (hk : k < zs.length) : gvalid (zs.take (k + 1) ++ zs.drop k) = false := by
  cases hv : gvalid (zs.take (k + 1) ++ zs.drop k) with
  | false => rfl
  | true =>
    have ha := gvalid_asc hv
    rw [List.pairwise_append] at ha
    have h1 : zs[k] ∈ zs.take (k + 1) := by
      rw [List.mem_take_iff_getElem]
      exact ⟨k, by omega, rfl⟩
    have h2 : zs[k] ∈ zs.drop k := by
      rw [List.mem_drop_iff_getElem]
      exact ⟨0, by omega, by simp⟩
    have := ha.2.2 _ h1 _ h2
    omega

end Go.Proofs.Ytdahnideolaniaa
