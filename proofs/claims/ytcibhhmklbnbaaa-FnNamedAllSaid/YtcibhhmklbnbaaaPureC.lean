/-
  Plain mathematics of lists of sets: which are valid, their masks, what is linked by them.
-/
import Derived.Test.YtcibhhmklbnbaaaPureB
namespace Go.Proofs.Ytcibhhmklbnbaaa

def setsB (zss : List (List Int)) : Bool := zss.all gvalid && decide (zss.length ≤ 12)

theorem setsB_bad {zss : List (List Int)} {k : Nat} (hk : k < zss.length) (h : gvalid (zss.getD k []) = false) : setsB zss = false := by
  have : zss.all gvalid = false := by
    rw [List.all_eq_false]
    refine ⟨zss[k], List.getElem_mem hk, ?_⟩
    have e : zss.getD k [] = zss[k] := by simp [hk]
    rw [← e, h]; simp
  simp [setsB, this]

theorem setsB_all {zss : List (List Int)} (h : ∀ k, k < zss.length → gvalid (zss.getD k []) = true) : setsB zss = decide (zss.length ≤ 12) := by
  have : zss.all gvalid = true := by
    rw [List.all_eq_true]
    intro z hz
    obtain ⟨i, hi, rfl⟩ := List.getElem_of_mem hz
    simpa [hi] using h i hi
  simp [setsB, this]

theorem setsB_long {zss : List (List Int)} (h : 12 < zss.length) : setsB zss = false := by
  have : decide (zss.length ≤ 12) = false := by simp; omega
  simp [setsB, this]

theorem setsB_get {zss : List (List Int)} (h : setsB zss = true) {k : Nat} (hk : k < zss.length) : gvalid (zss.getD k []) = true := by
  simp only [setsB, Bool.and_eq_true, List.all_eq_true] at h
  have := h.1 zss[k] (List.getElem_mem hk)
  simpa [hk] using this

theorem setsB_len {zss : List (List Int)} (h : setsB zss = true) : zss.length ≤ 12 := by
  simp only [setsB, Bool.and_eq_true, decide_eq_true_eq] at h
  exact h.2

/-- what has been found before k: of the sets named -/
def namedTo (zss : List (List Int)) (x : Int) (k : Nat) : List Int := ((List.range k).filter fun (i : Nat) => hasB (zss.getD i []) x).map fun (i : Nat) => (i : Int)

theorem namedTo_hit {zss : List (List Int)} {x : Int} {k : Nat} (h : hasB (zss.getD k []) x = true) : namedTo zss x (k + 1) = namedTo zss x k ++ [(k : Int)] := by
  rw [namedTo, List.range_succ, List.filter_append]; simp only [List.filter_cons, h, if_true, List.filter_nil, List.map_append, List.map_cons, List.map_nil]; rfl

theorem namedTo_miss {zss : List (List Int)} {x : Int} {k : Nat} (h : hasB (zss.getD k []) x = false) : namedTo zss x (k + 1) = namedTo zss x k := by
  rw [namedTo, List.range_succ, List.filter_append]; simp only [List.filter_cons, h, Bool.false_eq_true, if_false, List.filter_nil, List.append_nil]; rfl

theorem namedTo_len (zss : List (List Int)) (x : Int) (k : Nat) : (namedTo zss x k).length ≤ k := by
  have := List.length_filter_le (fun (i : Nat) => hasB (zss.getD i []) x) (List.range k)
  simpa [namedTo] using this

def goodB (zss : List (List Int)) (x : Int) : Bool := setsB zss && grB x

def namedR (zss : List (List Int)) (x : Int) : List Int := if goodB zss x then namedTo zss x zss.length else []

theorem namedR_yes {zss : List (List Int)} {x : Int} (h1 : setsB zss = true) (h2 : grB x = true) : namedR zss x = namedTo zss x zss.length := by simp [namedR, goodB, h1, h2]

theorem namedR_no1 {zss : List (List Int)} {x : Int} (h1 : setsB zss = false) : namedR zss x = [] := by simp [namedR, goodB, h1]

theorem namedR_no2 {zss : List (List Int)} {x : Int} (h2 : grB x = false) : namedR zss x = [] := by simp [namedR, goodB, h2]

theorem namedR_len (zss : List (List Int)) (x : Int) : (namedR zss x).length ≤ 12 := by
  unfold namedR
  split
  · rename_i h
    simp only [goodB, Bool.and_eq_true] at h
    have := namedTo_len zss x zss.length
    have := setsB_len h.1
    omega
  · simp

/-! ### what is linked, over masks -/
def stepM (s m : Nat) : Nat := if s &&& m = 0 then s else s ||| m

theorem stepM_def (s m : Nat) : stepM s m = if s &&& m = 0 then s else s ||| m := rfl

def pass (ms : List Nat) (s : Nat) : Nat := ms.foldl stepM s

def passes (ms : List Nat) : Nat → Nat → Nat
  | 0, s => s
  | f + 1, s => passes ms f (pass ms s)

theorem stepM_lt {s m : Nat} (hs : s < 32) (hm : m < 32) : stepM s m < 32 := by
  unfold stepM; split
  · exact hs
  · exact union_lt32 hs hm

theorem pass_lt {ms : List Nat} (hm : ∀ m, m ∈ ms → m < 32) : ∀ {s : Nat}, s < 32 → pass ms s < 32 := by
  induction ms with
  | nil => intro s hs; exact hs
  | cons m r ih =>
    intro s hs
    exact ih (fun x hx => hm x (by simp [hx])) (stepM_lt hs (hm m (by simp)))

theorem passes_lt {ms : List Nat} (hm : ∀ m, m ∈ ms → m < 32) : ∀ (f : Nat) {s : Nat}, s < 32 → passes ms f s < 32 := by
  intro f
  induction f with
  | zero => intro s hs; exact hs
  | succ f ih => intro s hs; exact ih (pass_lt hm hs)

theorem pass_take {ms : List Nat} {s k : Nat} (hk : k < ms.length) : pass (ms.take (k + 1)) s = stepM (pass (ms.take k) s) (ms.getD k 0) := by
  have e : ms.getD k 0 = ms[k] := by simp [hk]
  rw [e, pass, pass, List.take_add_one, List.getElem?_eq_getElem hk, List.foldl_append]
  rfl
/-- s is part of t -/
def subM (s t : Nat) : Prop := s ||| t = t

theorem subM_step (s m : Nat) : subM s (stepM s m) := by
  unfold subM stepM; split
  · exact Nat.or_self s
  · rw [← Nat.or_assoc, Nat.or_self]

theorem subM_trans {a b c : Nat} (h : subM a b) (k : subM b c) : subM a c := by
  unfold subM at *
  rw [← k, ← Nat.or_assoc, h]

theorem subM_pass (ms : List Nat) : ∀ s, subM s (pass ms s) := by
  induction ms with
  | nil => intro s; exact Nat.or_self s
  | cons m r ih => intro s; exact subM_trans (subM_step s m) (ih _)

def cnt (m : Nat) : Nat := (List.range 5).countP fun g => m.testBit g

theorem cnt_grow : ∀ s, s < 32 → ∀ t, t < 32 → s ||| t = t → s ≠ t → cnt s < cnt t := by decide +kernel

theorem cnt_le : ∀ s, s < 32 → cnt s ≤ 5 := by decide +kernel
/-- after enough passes nothing turns -/
theorem passes_fix {ms : List Nat} (hm : ∀ m, m ∈ ms → m < 32) : ∀ (f s : Nat), s < 32 → 5 ≤ f + cnt s → pass ms (passes ms f s) = passes ms f s := by
  intro f
  induction f with
  | zero =>
    intro s hs hc
    have h1 := cnt_le _ (pass_lt hm hs)
    by_cases e : s = pass ms s
    · exact e.symm
    · have := cnt_grow s hs _ (pass_lt hm hs) (subM_pass ms s) e
      omega
  | succ f ih =>
    intro s hs hc
    by_cases e : pass ms s = s
    · have stay : ∀ n, passes ms n s = s := by
        intro n
        induction n with
        | zero => rfl
        | succ n ihn => show passes ms n (pass ms s) = s; rw [e]; exact ihn
      rw [stay, e]
    · have := cnt_grow s hs _ (pass_lt hm hs) (subM_pass ms s) (fun h => e h.symm)
      exact ih (pass ms s) (pass_lt hm hs) (by omega)

theorem passes_stay {ms : List Nat} {s : Nat} (h : pass ms s = s) : ∀ f, passes ms f s = s := by
  intro f
  induction f with
  | zero => rfl
  | succ f ih => show passes ms f (pass ms s) = s; rw [h]; exact ih

def masks (zss : List (List Int)) : List Nat := zss.map mk

theorem masks_lt {zss : List (List Int)} (h : setsB zss = true) : ∀ m, m ∈ masks zss → m < 32 := by
  intro m hm
  simp only [masks, List.mem_map] at hm
  obtain ⟨z, hz, rfl⟩ := hm
  obtain ⟨i, hi, rfl⟩ := List.getElem_of_mem hz
  exact mk_lt (by simpa [hi] using setsB_get h hi)

def linkM (zss : List (List Int)) (x : Int) : Nat := passes (masks zss) 5 (2 ^ x.toNat)

def linkedR (zss : List (List Int)) (x : Int) : List Int := if goodB zss x then elemsM (linkM zss x) else []

theorem linkedR_yes {zss : List (List Int)} {x : Int} (h1 : setsB zss = true) (h2 : grB x = true) : linkedR zss x = elemsM (linkM zss x) := by simp [linkedR, goodB, h1, h2]

theorem linkedR_no1 {zss : List (List Int)} {x : Int} (h1 : setsB zss = false) : linkedR zss x = [] := by simp [linkedR, goodB, h1]

theorem linkedR_no2 {zss : List (List Int)} {x : Int} (h2 : grB x = false) : linkedR zss x = [] := by simp [linkedR, goodB, h2]

theorem elemsM_len (m : Nat) : (elemsM m).length ≤ 5 := List.length_filter_le _ (grps 5)

theorem linkedR_len (zss : List (List Int)) (x : Int) : (linkedR zss x).length ≤ 5 := by
  unfold linkedR; split
  · exact elemsM_len _
  · simp

theorem pow_lt32 {x : Int} (h : grB x = true) : 2 ^ x.toNat < 32 := by
  obtain ⟨h0, h4⟩ := grB_true.1 h
  have := or_lt32 (m := 0) (g := x.toNat) (by omega) (by omega)
  rwa [Nat.zero_or] at this

theorem elemsM_pow {x : Int} (h : grB x = true) : elemsM (2 ^ x.toNat) = [x] := by
  obtain ⟨h0, h4⟩ := grB_true.1 h
  obtain ⟨g, rfl⟩ := Int.eq_ofNat_of_zero_le h0
  rw [Int.toNat_natCast]
  have : g = 0 ∨ g = 1 ∨ g = 2 ∨ g = 3 ∨ g = 4 := by omega
  rcases this with rfl | rfl | rfl | rfl | rfl <;> decide +kernel

theorem unionL_elems : ∀ a, a < 32 → ∀ b, b < 32 → unionL (elemsM a) (elemsM b) = elemsM (a ||| b) := by decide +kernel

theorem union_len : ∀ a, a < 32 → ∀ b, b < 32 → decide ((elemsM (a ||| b)).length < (elemsM a).length + (elemsM b).length) = !decide (a &&& b = 0) := by decide +kernel

theorem passes_succ (ms : List Nat) : ∀ (f s : Nat), passes ms (f + 1) s = pass ms (passes ms f s) := by
  intro f
  induction f with
  | zero => intro s; rfl
  | succ f ih => intro s; exact ih (pass ms s)

theorem unionL_step {t : Nat} {zs : List Int} (ht : t < 32) (h : gvalid zs = true) : unionL (elemsM t) zs = elemsM (t ||| mk zs) := by
  have e := gvalid_elems h
  have := unionL_elems t ht (mk zs) (mk_lt h)
  rw [← e] at this
  exact this

theorem union_less {t : Nat} {zs : List Int} (ht : t < 32) (h : gvalid zs = true) (hz : ¬ t &&& mk zs = 0) : (elemsM (t ||| mk zs)).length < (elemsM t).length + zs.length := by
  have e := gvalid_elems h
  have := union_len t ht (mk zs) (mk_lt h)
  rw [← e] at this
  simpa [hz] using this

theorem union_same {t : Nat} {zs : List Int} (ht : t < 32) (h : gvalid zs = true) (hz : t &&& mk zs = 0) : (elemsM t).length + zs.length ≤ (elemsM (t ||| mk zs)).length := by
  have e := gvalid_elems h
  have := union_len t ht (mk zs) (mk_lt h)
  rw [← e] at this
  simpa [hz] using this

end Go.Proofs.Ytcibhhmklbnbaaa
