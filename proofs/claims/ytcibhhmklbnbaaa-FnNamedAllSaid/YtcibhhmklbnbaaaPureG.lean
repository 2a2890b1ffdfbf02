/-
  Plain mathematics for the laws of united groups and of named sets.
-/
import Derived.Test.YtcibhhmklbnbaaaPureD
namespace Go.Proofs.Ytcibhhmklbnbaaa

theorem unionR_good {xs ys : List Int} (h : 0 < (unionR xs ys).length) : gvalid xs = true ∧ gvalid ys = true := by
  cases hp : pairB xs ys with
  | false => rw [unionR_no hp] at h; simp at h
  | true => exact pairB_true hp

theorem union_common : ∀ a, a < 32 → ∀ b, b < 32 → (elemsM (a ||| b)).length + (elemsM (a &&& b)).length = (elemsM a).length + (elemsM b).length := by decide +kernel

theorem unionR_mk {xs ys : List Int} (h1 : gvalid xs = true) (h2 : gvalid ys = true) : unionR xs ys = elemsM (mk xs ||| mk ys) := by
  rw [unionR_elems (pairB_yes h1 h2), pairL_yes h1 h2, pairR_yes h1 h2, maskR_yes h1, maskR_yes h2]

theorem commonR_mk {xs ys : List Int} (h1 : gvalid xs = true) (h2 : gvalid ys = true) : commonR xs ys = elemsM (mk xs &&& mk ys) := by
  rw [commonR_elems (pairB_yes h1 h2), pairL_yes h1 h2, pairR_yes h1 h2, maskR_yes h1, maskR_yes h2]

theorem union_common_len {xs ys : List Int} (h1 : gvalid xs = true) (h2 : gvalid ys = true) : (unionR xs ys).length + (commonR xs ys).length = xs.length + ys.length := by
  have := union_common (mk xs) (mk_lt h1) (mk ys) (mk_lt h2)
  rwa [← gvalid_elems h1, ← gvalid_elems h2, ← unionR_mk h1 h2, ← commonR_mk h1 h2] at this

theorem union_self {xs : List Int} (h1 : gvalid xs = true) : unionR xs xs = xs := by
  rw [unionR_mk h1 h1, Nat.or_self, ← gvalid_elems h1]

theorem union_again {xs ys : List Int} (h : 0 < (unionR xs ys).length) : unionR (unionR xs ys) ys = unionR xs ys := by
  obtain ⟨h1, h2⟩ := unionR_good h
  have hv := unionR_valid h
  rw [unionR_mk hv h2]
  rw [unionR_mk h1 h2, mk_elemsM (union_lt32 (mk_lt h1) (mk_lt h2)), Nat.or_assoc, Nat.or_self]

theorem commonR_lenG (xs ys : List Int) : (commonR xs ys).length ≤ xs.length := by
  unfold commonR
  split
  · exact List.length_filter_le _ _
  · simp

theorem named_good {zss : List (List Int)} {x : Int} (h : 0 < (namedR zss x).length) : goodB zss x = true := by
  cases hg : goodB zss x with
  | true => rfl
  | false => simp [namedR, hg] at h

theorem namedTo_mem {zss : List (List Int)} {x z : Int} {n : Nat} : z ∈ namedTo zss x n ↔ ∃ i : Nat, i < n ∧ hasB (zss.getD i []) x = true ∧ z = (i : Int) := by
  simp only [namedTo, List.mem_map, List.mem_filter, List.mem_range]
  constructor
  · rintro ⟨i, ⟨h1, h2⟩, rfl⟩; exact ⟨i, h1, h2, rfl⟩
  · rintro ⟨i, h1, h2, rfl⟩; exact ⟨i, ⟨h1, h2⟩, rfl⟩

theorem named_has {zss : List (List Int)} {x : Int} (h1 : setsB zss = true) (h2 : grB x = true) {k : Nat} (hk : k < zss.length) : hasB (namedR zss x) (k : Int) = hasB (zss.getD k []) x := by
  rw [namedR_yes h1 h2, Bool.eq_iff_iff, hasB_iff, namedTo_mem]
  constructor
  · rintro ⟨i, _, h, e⟩
    obtain rfl : k = i := by omega
    exact h
  · exact fun h => ⟨k, hk, h, rfl⟩

/-- where a group is linked with itself only, the sets with it are single -/
theorem named_single {zss : List (List Int)} {x : Int} (hl : (linkedR zss x).length = 1) {k : Nat} (hk : k < (namedR zss x).length) :
    ∃ i : Nat, i < zss.length ∧ (namedR zss x).getD k 0 = (i : Int) ∧ (zss.getD i []).length = 1 := by
  obtain ⟨h1, h2⟩ := goodB_true (linked_good (zss := zss) (x := x) (by omega))
  have hmem : (namedR zss x).getD k 0 ∈ namedR zss x := by
    have : (namedR zss x).getD k 0 = (namedR zss x)[k] := by simp [hk]
    rw [this]; exact List.getElem_mem hk
  rw [namedR_yes h1 h2] at hmem ⊢
  obtain ⟨i, hi, hx, e⟩ := namedTo_mem.1 hmem
  refine ⟨i, hi, e, ?_⟩
  obtain ⟨hx0, hx4⟩ := grB_true.1 h2
  have hv := setsB_get h1 hi
  have hin : hasB (linkedR zss x) x = true := by
    rw [linkedR_yes h1 h2, hasB_iff, elemsM_mem]
    exact ⟨by omega, link_self⟩
  have hvl : gvalid (linkedR zss x) = true := by
    rw [linkedR_yes h1 h2] at hl ⊢
    exact gvalid_elemsM (by omega)
  obtain ⟨g, rfl⟩ := Int.eq_ofNat_of_zero_le hx0
  have hc := commonR_has hvl hv (k := g) (by omega)
  rw [hin, hx, Bool.and_self, hasB_iff] at hc
  have hpos : 0 < (commonR (linkedR zss (g : Int)) (zss.getD i [])).length := List.length_pos_of_mem hc
  have hcl := linked_closed h1 h2 hi hpos
  have hle := commonR_lenG (linkedR zss (g : Int)) (zss.getD i [])
  omega

end Go.Proofs.Ytcibhhmklbnbaaa
