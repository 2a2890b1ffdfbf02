/-
  Plain mathematics of credits, continued: what giving back answers, sender by sender; what the promises of the chapter ask.
-/
import Derived.Test.YtfcoobebebdniaaCdA
namespace Go.Proofs.Ytfcoobebebdniaa
set_option linter.unusedVariables false
set_option linter.unusedSimpArgs false

/-- credits told by functions -/
def mkC (F : Nat → Int) (H : Nat → Ho) (n : Nat) : Cr := ⟨(List.range 5).map F, (List.range n).map H⟩

def upd {α : Type} (F : Nat → α) (k : Nat) (v : α) : Nat → α := fun j => if j = k then v else F j

theorem upd_same {α : Type} {F : Nat → α} {k : Nat} {v : α} : upd F k v k = v := by simp [upd]

theorem upd_other {α : Type} {F : Nat → α} {k j : Nat} {v : α} (h : j ≠ k) : upd F k v j = F j := by simp [upd, h]
section
variable {F F' : Nat → Int} {H H' : Nat → Ho} {n g i s : Nat}

theorem mkC_f (hg : g < 5) : (mkC F H n).f g = F g := by
  unfold Cr.f mkC; simp [List.getD_eq_getElem?_getD, List.getElem?_range, hg]

theorem mkC_h (hi : i < n) : (mkC F H n).h i = H i := by
  unfold Cr.h mkC; simp [List.getD_eq_getElem?_getD, List.getElem?_range, hi]

theorem mkC_n : (mkC F H n).hs.length = n := by simp [mkC]

theorem mkC_5 : (mkC F H n).fr.length = 5 := by simp [mkC]

theorem mkC_congr (hF : ∀ g, g < 5 → F g = F' g) (hH : ∀ i, i < n → H i = H' i) : mkC F H n = mkC F' H' n := by
  unfold mkC
  rw [List.map_congr_left (fun g hg => hF g (by simpa using hg)), List.map_congr_left (fun i hi => hH i (by simpa using hi))]

theorem map_getD {α : Type} {l : List α} {d : α} {n : Nat} (h : l.length = n) : (List.range n).map (fun i => l.getD i d) = l := by
  apply List.ext_getElem?
  intro i
  rw [List.getElem?_map]
  by_cases hi : i < n
  · rw [List.getElem?_range hi, List.getElem?_eq_getElem (by omega)]
    simp [List.getD_eq_getElem?_getD, List.getElem?_eq_getElem (show i < l.length by omega)]
  · rw [List.getElem?_eq_none (by simp; omega), List.getElem?_eq_none (by omega)]; rfl

theorem eq_mkC {c : Cr} (h : c.fr.length = 5) : c = mkC c.f c.h c.hs.length := by
  obtain ⟨fr, hs⟩ := c
  unfold mkC
  congr 1
  · exact (map_getD h).symm
  · exact (map_getD rfl).symm

theorem set_map {α : Type} (F : Nat → α) (n k : Nat) (v : α) : ((List.range n).map F).set k v = (List.range n).map (upd F k v) := by
  apply List.ext_getElem?
  intro i
  rw [List.getElem?_set, List.getElem?_map, List.getElem?_map]
  by_cases e : k = i
  · subst e
    by_cases hk : k < n
    · simp [hk, List.getElem?_range, upd]
    · simp [hk]
  · rw [if_neg e]
    by_cases hi : i < n
    · simp [List.getElem?_range, hi, upd, Ne.symm e]
    · simp [hi]

theorem tak_mkC (hs : s < n) (hg : g < 5) : tak (mkC F H n) s g = mkC (upd F g (F g - 1)) (upd H s (unionL (H s).1 [(g : Int)], -1)) n := by
  unfold tak
  rw [mkC_f hg, mkC_h hs]
  unfold mkC
  rw [set_map, set_map]

theorem inc_mkC (hg : g < 5) : inc (mkC F H n) g = mkC (upd F g (F g + 1)) H n := by
  unfold inc
  rw [mkC_f hg]
  unfold mkC
  rw [set_map]

theorem clr_mkC : clr (mkC F H n) s = mkC F (upd H s ([], -1)) n := by
  unfold clr mkC
  rw [set_map]
end
/-- equal credits, place by place -/
theorem Cr.ext' {c d : Cr} (h1 : c.fr.length = 5) (h2 : d.fr.length = 5) (h3 : c.hs.length = d.hs.length) (hf : ∀ g, g < 5 → c.f g = d.f g) (hh : ∀ i, i < c.hs.length → c.h i = d.h i) : c = d := by
  rw [eq_mkC h1, eq_mkC h2, ← h3]
  exact mkC_congr hf hh

/-! ### serving -/
theorem servTo_succ (c : Cr) (g k : Nat) : servTo c g (k + 1) = servA g (servTo c g k) k := by
  unfold servTo
  rw [List.range_succ, List.foldl_append]; rfl

theorem servA_no {g k : Nat} {c : Cr} (h : ¬ (0 < c.f g ∧ (c.h k).2 = (g : Int))) : servA g c k = c := if_neg h

theorem servA_yes {g k : Nat} {c : Cr} (h : 0 < c.f g ∧ (c.h k).2 = (g : Int)) : servA g c k = tak c k g := if_pos h
/-- none left: nothing turns any more -/
theorem servTo_done {c : Cr} {g k : Nat} (h : ¬ 0 < (servTo c g k).f g) : ∀ m, servTo c g (k + m) = servTo c g k
  | 0 => rfl
  | m + 1 => by
    rw [← Nat.add_assoc, servTo_succ, servTo_done h m]
    exact servA_no (fun k => h k.1)

theorem servTo_none {F : Nat → Int} {H : Nat → Ho} {n g : Nat} (hg : g < 5) (hno : ∀ k, k < n → (H k).2 ≠ (g : Int)) : ∀ m, m ≤ n → servTo (mkC F H n) g m = mkC (upd F g (F g + 1)) H n
  | 0, _ => inc_mkC hg
  | m + 1, hm => by
    rw [servTo_succ, servTo_none hg hno m (by omega)]
    refine servA_no (fun k => hno m (by omega) ?_)
    rw [← mkC_h (F := upd F g (F g + 1)) (H := H) (show m < n by omega)]; exact k.2

theorem servTo_some {F : Nat → Int} {H : Nat → Ho} {n g k : Nat} (hg : g < 5) (hk : k < n) (hw : (H k).2 = (g : Int)) (hno : ∀ j, j < k → (H j).2 ≠ (g : Int)) (h0 : F g = 0) : ∀ m, m ≤ n → servTo (mkC F H n) g m = if m ≤ k then mkC (upd F g (F g + 1)) H n else mkC F (upd H k (unionL (H k).1 [(g : Int)], -1)) n
  | 0, _ => by rw [if_pos (Nat.zero_le _)]; exact inc_mkC hg
  | m + 1, hm => by
    rw [servTo_succ, servTo_some hg hk hw hno h0 m (by omega)]
    by_cases h1 : m ≤ k
    · rw [if_pos h1]
      by_cases h2 : m = k
      · subst h2
        rw [if_neg (by omega), servA_yes ⟨by rw [mkC_f hg, upd_same, h0]; decide, by rw [mkC_h hk]; exact hw⟩, tak_mkC hk hg]
        refine mkC_congr (fun j hj => ?_) (fun _ _ => rfl)
        by_cases e : j = g
        · subst e; rw [upd_same, upd_same]; omega
        · rw [upd_other e, upd_other e]
      · rw [if_pos (by omega)]
        refine servA_no (fun h => hno m (by omega) ?_)
        rw [← mkC_h (F := upd F g (F g + 1)) (H := H) (show m < n by omega)]; exact h.2
    · rw [if_neg h1, if_neg (by omega)]
      refine servA_no (fun h => ?_)
      have := h.1
      rw [mkC_f hg, h0] at this
      omega
/-- the first sender that waits for a group -/
def fw (c : Cr) (g : Int) : Option Nat := (List.range c.hs.length).find? fun k => decide ((c.h k).2 = g)

theorem fw_some {c : Cr} {g : Int} {k : Nat} (h : fw c g = some k) : k < c.hs.length ∧ (c.h k).2 = g ∧ ∀ j, j < k → (c.h j).2 ≠ g := by
  unfold fw at h
  rw [List.find?_eq_some_iff_getElem] at h
  obtain ⟨h1, i, hi, e, h2⟩ := h
  simp only [List.getElem_range] at e
  subst e
  simp only [List.length_range] at hi
  refine ⟨hi, by simpa using h1, fun j hj => ?_⟩
  have := h2 j hj
  simpa using this

theorem fw_none {c : Cr} {g : Int} (h : fw c g = none) : ∀ k, k < c.hs.length → (c.h k).2 ≠ g := by
  unfold fw at h
  rw [List.find?_eq_none] at h
  intro k hk
  have := h k (by simpa using hk)
  simpa using this

theorem fw_of {c : Cr} {g : Int} {k : Nat} (hk : k < c.hs.length) (h1 : (c.h k).2 = g) (h2 : ∀ j, j < k → (c.h j).2 ≠ g) : fw c g = some k := by
  unfold fw
  rw [List.find?_eq_some_iff_getElem]
  exact ⟨by simpa using h1, k, by simpa using hk, by simp, fun j hj => by simpa using h2 j hj⟩
/-- a sender behind a giving back of the groups gs by s -/
def gvH (c : Cr) (s : Nat) (gs : List Int) (k : Nat) : Ho :=
  if k = s then ([], -1) else if (c.h k).2 ∈ gs ∧ fw c (c.h k).2 = some k then (unionL (c.h k).1 [(c.h k).2], -1) else c.h k

def gvF (c : Cr) (gs : List Int) (g : Nat) : Int := if (g : Int) ∈ gs ∧ fw c (g : Int) = none then c.f g + 1 else c.f g

theorem snoc_ind {α : Type} {P : List α → Prop} (h0 : P []) (h1 : ∀ l a, P l → P (l ++ [a])) (l : List α) : P l := by
  have key : ∀ l : List α, P l.reverse := by
    intro l
    induction l with
    | nil => exact h0
    | cons a l ih => rw [List.reverse_cons]; exact h1 _ _ ih
  have := key l.reverse
  rwa [List.reverse_reverse] at this

theorem give_run {c : Cr} {s : Nat} (v : Vc c) (hs : s < c.hs.length) (hw : (c.h s).2 < 0) : ∀ gs : List Int, gs.Nodup → (∀ g ∈ gs, 0 ≤ g ∧ g ≤ 4) → giveTo c s gs = mkC (gvF c gs) (gvH c s gs) c.hs.length := by
  refine snoc_ind ?_ ?_
  · intro _ _
    show clr c s = _
    rw [eq_mkC v.fl, clr_mkC, ← eq_mkC v.fl]
    refine mkC_congr (fun g _ => by simp [gvF]) (fun k _ => ?_)
    unfold upd gvH
    simp
  · intro gs g ih hn hr
    rw [List.nodup_append] at hn
    have hg := hr g (by simp)
    obtain ⟨q, rfl⟩ := Int.eq_ofNat_of_zero_le hg.1
    have hq : q < 5 := by omega
    have hgn : (q : Int) ∉ gs := fun hm => hn.2.2 _ hm _ (by simp) rfl
    have hst : giveTo c s (gs ++ [(q : Int)]) = serv (giveTo c s gs) q := by
      unfold giveTo
      rw [List.foldl_append]
      rfl
    rw [hst, ih hn.1 (fun x hx => hr x (by simp [hx]))]
    -- those who wait for q
    have hwt : ∀ k, k < c.hs.length → ((gvH c s gs k).2 = (q : Int) ↔ (c.h k).2 = (q : Int)) := fun k hk => by
      unfold gvH
      by_cases e : k = s
      · subst e; rw [if_pos rfl]; constructor <;> intro h
        · simp at h
        · omega
      · rw [if_neg e]
        split
        · rename_i h
          constructor <;> intro h2
          · simp at h2
          · exact absurd (h2 ▸ h.1) hgn
        · exact Iff.rfl
    have hsame : ∀ k, k < c.hs.length → (c.h k).2 = (q : Int) → gvH c s gs k = c.h k := fun k hk h => by
      unfold gvH
      have e : k ≠ s := fun e => by subst e; omega
      rw [if_neg e, if_neg (fun h2 => hgn (h ▸ h2.1))]
    have hFq : gvF c gs q = c.f q := by unfold gvF; rw [if_neg (fun h => hgn h.1)]
    unfold serv
    rw [mkC_n]
    cases hf : fw c (q : Int) with
    | none =>
      rw [servTo_none hq (fun k hk h => fw_none hf k hk ((hwt k hk).1 h)) _ (Nat.le_refl _)]
      refine mkC_congr (fun g hg => ?_) (fun k hk => ?_)
      · by_cases e : g = q
        · subst e
          rw [upd_same, hFq]
          unfold gvF
          rw [if_pos ⟨by simp, hf⟩]
        · rw [upd_other e]
          unfold gvF
          have : ((g : Int) ∈ gs ++ [(q : Int)]) ↔ ((g : Int) ∈ gs) := by
            rw [List.mem_append, List.mem_singleton]
            exact ⟨fun h => h.resolve_right (by omega), .inl⟩
          simp only [this]
      · unfold gvH
        by_cases e : (c.h k).2 = (q : Int)
        · rw [e, hf]; simp
        · have : ((c.h k).2 ∈ gs ++ [(q : Int)]) ↔ ((c.h k).2 ∈ gs) := by
            rw [List.mem_append, List.mem_singleton]
            exact ⟨fun h => h.resolve_right e, .inl⟩
          simp only [this]
    | some k0 =>
      obtain ⟨hk0, hw0, hbef⟩ := fw_some hf
      have h0 : gvF c gs q = 0 := by
        rw [hFq]
        have := v.wf k0 hk0 (by omega)
        rw [hw0] at this
        exact this
      rw [servTo_some hq hk0 ((hwt k0 hk0).2 hw0) (fun j hj h => hbef j hj ((hwt j (by omega)).1 h)) h0 _ (Nat.le_refl _), if_neg (by omega)]
      refine mkC_congr (fun g hg => ?_) (fun k hk => ?_)
      · unfold gvF
        by_cases e : g = q
        · subst e; rw [hf]; simp
        · have : ((g : Int) ∈ gs ++ [(q : Int)]) ↔ ((g : Int) ∈ gs) := by
            rw [List.mem_append, List.mem_singleton]
            exact ⟨fun h => h.resolve_right (by omega), .inl⟩
          simp only [this]
      · by_cases e : k = k0
        · subst e
          rw [upd_same, hsame k hk hw0]
          have es : k ≠ s := fun e => by subst e; omega
          unfold gvH
          rw [if_neg es, hw0, if_pos ⟨by simp, hf⟩]
        · rw [upd_other e]
          unfold gvH
          by_cases e2 : (c.h k).2 = (q : Int)
          · rw [e2, hf]
            have : ¬ (some k0 = some k) := fun h => e (by injection h with h; exact h.symm)
            simp [this, hgn]
          · have : ((c.h k).2 ∈ gs ++ [(q : Int)]) ↔ ((c.h k).2 ∈ gs) := by
              rw [List.mem_append, List.mem_singleton]
              exact ⟨fun h => h.resolve_right e2, .inl⟩
            simp only [this]
end Go.Proofs.Ytfcoobebebdniaa
