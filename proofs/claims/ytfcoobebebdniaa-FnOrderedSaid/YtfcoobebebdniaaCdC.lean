/-
  Plain mathematics of credits, continued: the promises of the chapter.
-/
import Derived.Test.YtfcoobebebdniaaCdB
namespace Go.Proofs.Ytfcoobebebdniaa
set_option linter.unusedVariables false
set_option linter.unusedSimpArgs false

theorem getD_set {α : Type} {l : List α} {i j : Nat} {v d : α} (hi : i < l.length) : (l.set i v).getD j d = if j = i then v else l.getD j d := by
  rw [List.getD_eq_getElem?_getD, List.getD_eq_getElem?_getD, List.getElem?_set]
  by_cases e : i = j
  · subst e; simp [hi]
  · rw [if_neg e, if_neg (Ne.symm e)]

theorem clr_h {c : Cr} {s k : Nat} (hs : s < c.hs.length) : (clr c s).h k = if k = s then ([], -1) else c.h k := getD_set hs

theorem tak_h {c : Cr} {s g k : Nat} (hs : s < c.hs.length) : (tak c s g).h k = if k = s then (unionL (c.h s).1 [(g : Int)], -1) else c.h k := getD_set hs

theorem tak_f {c : Cr} {s g k : Nat} (hg : g < c.fr.length) : (tak c s g).f k = if k = g then c.f g - 1 else c.f k := getD_set hg

theorem tak_n {c : Cr} {s g : Nat} : (tak c s g).hs.length = c.hs.length ∧ (tak c s g).fr.length = c.fr.length := by simp [tak]
/-- a sender that waits from now on -/
def wai (c : Cr) (s : Nat) (g : Int) : Cr := ⟨c.fr, c.hs.set s ((c.h s).1, g)⟩

theorem wai_h {c : Cr} {s k : Nat} {g : Int} (hs : s < c.hs.length) : (wai c s g).h k = if k = s then ((c.h s).1, g) else c.h k := getD_set hs

theorem wai_n {c : Cr} {s : Nat} {g : Int} : (wai c s g).hs.length = c.hs.length ∧ (wai c s g).fr = c.fr := by simp [wai]

theorem sdB_true {c : Cr} {s : Int} : sdB c s = true ↔ (Vc c ∧ 0 ≤ s ∧ s < (c.hs.length : Int)) := by
  unfold sdB
  rw [Bool.and_eq_true, crB_true, inB_true]
  constructor
  · rintro ⟨v, h1, h2⟩; exact ⟨v, h1, by omega⟩
  · rintro ⟨v, h1, h2⟩; exact ⟨v, h1, by omega⟩

/-- asking that succeeds -/
structure AskOk (c : Cr) (s g : Int) (out : Cr) (S G : Nat) : Prop where
  es : s = (S : Int)
  eg : g = (G : Int)
  v : Vc c
  hS : S < c.hs.length
  hG : G < 5
  w : (c.h S).2 < 0
  no : (G : Int) ∉ (c.h S).1
  o : (0 < c.f G ∧ out = tak c S G) ∨ (c.f G = 0 ∧ out = wai c S (G : Int))

theorem ask_ok {c : Cr} {s g : Int} {out : Cr} (h : askR c s g = (out, true)) : ∃ S G, AskOk c s g out S G := by
  unfold askR at h
  split at h
  · rename_i h1
    rw [Bool.and_eq_true, sdB_true, grB_true] at h1
    obtain ⟨⟨v, h2, h3⟩, h4, h5⟩ := h1
    obtain ⟨S, rfl⟩ := Int.eq_ofNat_of_zero_le h2
    obtain ⟨G, rfl⟩ := Int.eq_ofNat_of_zero_le h4
    simp only [Int.toNat_natCast] at h
    split at h
    · simp at h
    · rename_i h6
      have h7 : ¬ (0 ≤ (c.h S).2) := fun k => h6 (.inl k)
      have h8 : (G : Int) ∉ (c.h S).1 := fun k => h6 (.inr (hasB_iff.2 k))
      split at h
      · rename_i h9
        simp only [Prod.mk.injEq, and_true] at h
        exact ⟨S, G, rfl, rfl, v, by omega, by omega, by omega, h8, .inl ⟨h9, h.symm⟩⟩
      · rename_i h9
        simp only [Prod.mk.injEq, and_true] at h
        have := v.fr G (by omega)
        exact ⟨S, G, rfl, rfl, v, by omega, by omega, by omega, h8, .inr ⟨by omega, h.symm⟩⟩
  · simp [cr0] at h

theorem ask_no {c : Cr} {s g : Int} {out : Cr} (h : askR c s g = (out, false)) : out = cr0 ∨ (∃ S G : Nat, s = S ∧ g = G ∧ S < c.hs.length ∧ G < 5 ∧ Vc c ∧ out = c ∧ (0 ≤ (c.h S).2 ∨ (G : Int) ∈ (c.h S).1)) := by
  unfold askR at h
  split at h
  · rename_i h1
    rw [Bool.and_eq_true, sdB_true, grB_true] at h1
    obtain ⟨⟨v, h2, h3⟩, h4, h5⟩ := h1
    obtain ⟨S, rfl⟩ := Int.eq_ofNat_of_zero_le h2
    obtain ⟨G, rfl⟩ := Int.eq_ofNat_of_zero_le h4
    simp only [Int.toNat_natCast] at h
    split at h
    · rename_i h6
      simp only [Prod.mk.injEq, and_true] at h
      exact .inr ⟨S, G, rfl, rfl, by omega, by omega, v, h.symm, h6.imp id hasB_iff.1⟩
    · split at h <;> simp at h
  · simp only [Prod.mk.injEq, and_true] at h
    exact .inl h.symm
/-- giving back that succeeds -/
structure GiveOk (c : Cr) (s : Int) (out : Cr) (S : Nat) : Prop where
  es : s = (S : Int)
  v : Vc c
  hS : S < c.hs.length
  w : (c.h S).2 < 0
  ne : 0 < (c.h S).1.length
  fu : ∀ g ∈ (c.h S).1, c.f g.toNat < 9
  o : out = mkC (gvF c (c.h S).1) (gvH c S (c.h S).1) c.hs.length

theorem fulB_false {c : Cr} {gs : List Int} : fulB c gs = false ↔ ∀ g ∈ gs, c.f g.toNat < 9 := by
  unfold fulB
  rw [List.any_eq_false]
  constructor
  · intro h g hg
    have := h g hg
    simp at this; omega
  · intro h g hg
    have := h g hg
    simp; omega

theorem give_ok {c : Cr} {s : Int} {out : Cr} (h : giveR c s = (out, true)) : ∃ S, GiveOk c s out S := by
  unfold giveR at h
  split at h
  · rename_i h1
    rw [sdB_true] at h1
    obtain ⟨v, h2, h3⟩ := h1
    obtain ⟨S, rfl⟩ := Int.eq_ofNat_of_zero_le h2
    simp only [Int.toNat_natCast] at h
    have hS : S < c.hs.length := by omega
    split at h
    · simp at h
    · rename_i h6
      split at h
      · simp at h
      · rename_i h7
        simp only [Prod.mk.injEq, and_true] at h
        have hw : (c.h S).2 < 0 := by
          rcases Classical.em (0 ≤ (c.h S).2) with k | k
          · exact absurd (.inl k) h6
          · omega
        refine ⟨S, rfl, v, hS, hw, ?_, fulB_false.1 (by simpa using h7), ?_⟩
        · rcases Nat.eq_zero_or_pos (c.h S).1.length with k | k
          · exact absurd (.inr k) h6
          · exact k
        · rw [← h]
          exact give_run v hS hw _ (set_nodup (v.set S hS)) (setB_true.1 (v.set S hS)).2
  · simp [cr0] at h

theorem give_no {c : Cr} {s : Int} {out : Cr} (h : giveR c s = (out, false)) : out = cr0 ∨ (∃ S : Nat, s = S ∧ S < c.hs.length ∧ Vc c ∧ out = c) := by
  unfold giveR at h
  split at h
  · rename_i h1
    rw [sdB_true] at h1
    obtain ⟨v, h2, h3⟩ := h1
    obtain ⟨S, rfl⟩ := Int.eq_ofNat_of_zero_le h2
    split at h
    · simp only [Prod.mk.injEq, and_true] at h
      exact .inr ⟨S, rfl, by omega, v, h.symm⟩
    · split at h
      · simp only [Prod.mk.injEq, and_true] at h
        exact .inr ⟨S, rfl, by omega, v, h.symm⟩
      · simp at h
  · simp only [Prod.mk.injEq, and_true] at h
    exact .inl h.symm
/-- .. does not fail for a sender that does not wait and has something, unless a group has all of its credits -/
theorem give_bad {c : Cr} {S : Nat} (v : Vc c) (hS : S < c.hs.length) (h : 0 ≤ (c.h S).2 ∨ (c.h S).1.length = 0) : giveR c (S : Int) = (c, false) := by
  unfold giveR
  rw [if_pos (sdB_true.2 ⟨v, by omega, by omega⟩)]
  simp only [Int.toNat_natCast]
  rw [if_pos h]

/-! ### what stays valid -/
theorem AskOk.valid {c out : Cr} {s g : Int} {S G : Nat} (h : AskOk c s g out S G) : Vc out := by
  have v := h.v
  have hGl : G < c.fr.length := by rw [v.fl]; exact h.hG
  rcases h.o with ⟨h0, rfl⟩ | ⟨h0, rfl⟩
  · have hh : ∀ k, (tak c S G).h k = if k = S then (unionL (c.h S).1 [(G : Int)], -1) else c.h k := fun k => tak_h h.hS
    have hf : ∀ k, (tak c S G).f k = if k = G then c.f G - 1 else c.f k := fun k => tak_f hGl
    have hn := (tak_n (c := c) (s := S) (g := G)).1
    refine ⟨by rw [tak_n.2, v.fl], by rw [hn]; exact v.n1, by rw [hn]; exact v.n6, fun k hk => ?_, fun i hi => ?_, fun i hi => ?_, fun i hi hw => ?_, fun i hi hw => ?_⟩
    · rw [hf]; have := v.fr k hk; have := v.fr G h.hG; split <;> omega
    · rw [hh]; split
      · exact unionL_set _ _
      · exact v.set i (by omega)
    · rw [hh]; split
      · simp
      · exact v.wr i (by omega)
    · rw [hh] at hw ⊢
      split at hw
      · simp at hw
      · rename_i e
        rw [if_neg e, hf]
        have := v.wf i (by omega) hw
        split
        · rename_i e2; rw [e2] at this; omega
        · exact this
    · rw [hh] at hw ⊢
      split at hw
      · simp at hw
      · rename_i e
        rw [if_neg e]; exact v.wh i (by omega) hw
  · have hh : ∀ k, (wai c S (G : Int)).h k = if k = S then ((c.h S).1, (G : Int)) else c.h k := fun k => wai_h h.hS
    have hf : ∀ k, (wai c S (G : Int)).f k = c.f k := fun k => rfl
    have hn := (wai_n (c := c) (s := S) (g := (G : Int))).1
    refine ⟨v.fl, by rw [hn]; exact v.n1, by rw [hn]; exact v.n6, v.fr, fun i hi => ?_, fun i hi => ?_, fun i hi hw => ?_, fun i hi hw => ?_⟩
    · rw [hh]; split
      · exact v.set S h.hS
      · exact v.set i (by omega)
    · rw [hh]; have := h.hG; split
      · simp; omega
      · exact v.wr i (by omega)
    · rw [hf, hh]
      rw [hh] at hw
      split at hw
      · rename_i e; rw [if_pos e]; simpa using h0
      · rename_i e; rw [if_neg e]; exact v.wf i (by omega) hw
    · rw [hh] at hw ⊢
      split at hw
      · rename_i e; rw [if_pos e]; exact h.no
      · rename_i e; rw [if_neg e]; exact v.wh i (by omega) hw

theorem gvH_wait {c : Cr} {S k : Nat} {gs : List Int} (h : 0 ≤ (gvH c S gs k).2) : gvH c S gs k = c.h k ∧ k ≠ S := by
  unfold gvH at h ⊢
  split at h
  · simp at h
  · rename_i e
    rw [if_neg e]
    split at h
    · simp at h
    · rename_i e2; rw [if_neg e2]; exact ⟨rfl, e⟩

theorem GiveOk.h {c out : Cr} {s : Int} {S : Nat} (h : GiveOk c s out S) {k : Nat} (hk : k < c.hs.length) : out.h k = gvH c S (c.h S).1 k := by rw [h.o]; exact mkC_h hk

theorem GiveOk.f {c out : Cr} {s : Int} {S : Nat} (h : GiveOk c s out S) {g : Nat} (hg : g < 5) : out.f g = gvF c (c.h S).1 g := by rw [h.o]; exact mkC_f hg

theorem GiveOk.n {c out : Cr} {s : Int} {S : Nat} (h : GiveOk c s out S) : out.hs.length = c.hs.length := by rw [h.o]; exact mkC_n

theorem GiveOk.valid {c out : Cr} {s : Int} {S : Nat} (h : GiveOk c s out S) : Vc out := by
  have v := h.v
  have hn := h.n
  refine ⟨by rw [h.o]; exact mkC_5, by rw [hn]; exact v.n1, by rw [hn]; exact v.n6, fun g hg => ?_, fun i hi => ?_, fun i hi => ?_, fun i hi hw => ?_, fun i hi hw => ?_⟩
  · rw [h.f hg]
    have := v.fr g hg
    unfold gvF
    split
    · rename_i e
      have := h.fu _ e.1
      simp only [Int.toNat_natCast] at this
      omega
    · exact this
  · rw [h.h (by omega)]
    unfold gvH
    split
    · rfl
    · split
      · exact unionL_set _ _
      · exact v.set i (by omega)
  · rw [h.h (by omega)]
    unfold gvH
    split
    · simp
    · split
      · simp
      · exact v.wr i (by omega)
  · rw [h.h (by omega)] at hw ⊢
    obtain ⟨e, hne⟩ := gvH_wait hw
    rw [e] at hw ⊢
    have hr := v.wr i (by omega)
    rw [h.f (by omega)]
    have h0 := v.wf i (by omega) hw
    unfold gvF
    rw [if_neg, h0]
    rintro ⟨_, h2⟩
    exact fw_none h2 i (by omega) (by omega)
  · rw [h.h (by omega)] at hw ⊢
    obtain ⟨e, hne⟩ := gvH_wait hw
    rw [e] at hw ⊢
    exact v.wh i (by omega) hw
end Go.Proofs.Ytfcoobebebdniaa
