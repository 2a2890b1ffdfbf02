/-
  Plain mathematics of the promises about the order within a group. No program, no condition.
-/
import Derived.Test.YtbnmeedmeikepaaGmB
namespace Go.Proofs.Ytbnmeedmeikepaa

theorem rel_iff {l : List En} : l.Pairwise relE ↔ (AscE l ∧ (l.map fun e => e.1).Nodup) := by
  unfold AscE List.Nodup
  rw [List.pairwise_map]
  constructor
  · intro h; exact ⟨h.imp fun h => h.1, h.imp fun h => h.2⟩
  · rintro ⟨h, k⟩; exact h.imp₂ (fun _ _ a b => ⟨a, b⟩) k

theorem okE_more {id ck ck' : Int} {e : En} (h : okE id ck e = true) (hc : ck ≤ ck') : okE id ck' e = true := by
  rw [okE_true] at h ⊢
  exact ⟨h.1, h.2.1, by omega, h.2.2.2⟩

theorem Vd.ok {g : Gp} (h : Vd g) {e : En} (he : e ∈ g.D ∨ e ∈ g.P) : okE g.id g.ck e = true := h.2.2.2.1.1 e (List.mem_append.2 he)

theorem Vd.lt {g : Gp} (h : Vd g) {d p : En} (hd : d ∈ g.D) (hp : p ∈ g.P) : ltS d.2.1 p.2.1 = true ∧ d.1 ≠ p.1 := (List.pairwise_append.1 h.2.2.2.1.2).2.2 d hd p hp

theorem mem_at {l : List En} {k : Nat} (h : k < l.length) : atE l k ∈ l := by simp [atE, h]
/-- a message that two entries of a list have is the same entry -/
theorem same_msg {id ck : Int} {l : List En} (h : LsOk id ck l) {a b : En} (ha : a ∈ l) (hb : b ∈ l) (e : a.1 = b.1) : a = b := by
  obtain ⟨i, hi, e1⟩ := List.getElem_of_mem ha
  obtain ⟨j, hj, e2⟩ := List.getElem_of_mem hb
  rcases Nat.lt_trichotomy i j with hij | hij | hij
  · have := (List.pairwise_iff_getElem.1 h.2 i j hi hj hij).2
    rw [e1, e2] at this; exact absurd e this
  · subst hij; rw [← e1, ← e2]
  · have := (List.pairwise_iff_getElem.1 h.2 j i hj hi hij).2
    rw [e1, e2] at this; exact absurd e.symm this
/-- where a message stands -/
theorem pla_mem {id ck : Int} {l : List En} (h : LsOk id ck l) {e : En} (he : e ∈ l) : plI l e.1 ≥ 0 ∧ atE l (pla l e.1) = e ∧ pla l e.1 < l.length := by
  rcases pla_cases l e.1 with ⟨k, x, h1, h2, h3, h4, h5, _⟩ | ⟨_, _, h3⟩
  · have hx : x ∈ l := List.mem_of_getElem? h4
    have := same_msg h hx he h5
    rw [h1, h2, atE_get h4]
    exact ⟨by omega, this, h3⟩
  · exact absurd rfl (h3 e he)

theorem pla_no {l : List En} {m : Int} (h : ∀ e ∈ l, e.1 ≠ m) : plI l m = -1 := (plI_miss h).2

theorem plI_ge {l : List En} {m : Int} (h : plI l m ≥ 0) : pla l m < l.length ∧ atE l (pla l m) ∈ l ∧ (atE l (pla l m)).1 = m := by
  rcases pla_cases l m with ⟨k, x, h1, h2, h3, h4, h5, _⟩ | ⟨_, h2, _⟩
  · rw [h1]; exact ⟨h3, mem_at h3, by rw [atE_get h4]; exact h5⟩
  · omega

theorem plI_lt {l : List En} {m : Int} (h : ¬ plI l m ≥ 0) : ∀ e ∈ l, e.1 ≠ m := by
  rcases pla_cases l m with ⟨k, x, h1, h2, h3, h4, h5, _⟩ | ⟨_, _, h3⟩
  · omega
  · exact h3

/-- the entry of a message of a valid group -/
theorem stA_P {g : Gp} (h : Vd g) {e : En} (he : e ∈ g.P) : stA g e.1 = (e, true) := by
  obtain ⟨h1, h2, _⟩ := pla_mem h.P he
  unfold stA; rw [if_pos h1, h2]

theorem stA_D {g : Gp} (h : Vd g) {e : En} (he : e ∈ g.D) : stA g e.1 = (e, true) := by
  obtain ⟨h1, h2, _⟩ := pla_mem h.D he
  have h3 : ¬ plI g.P e.1 ≥ 0 := by
    rw [pla_no (fun p hp => ((h.lt he hp).2).symm)]; omega
  unfold stA; rw [if_neg h3, if_pos h1, h2]

theorem stA_no {g : Gp} {m : Int} (h1 : ∀ e ∈ g.P, e.1 ≠ m) (h2 : ∀ e ∈ g.D, e.1 ≠ m) : stA g m = (en0, false) := by
  have a : ¬ plI g.P m ≥ 0 := by rw [pla_no h1]; omega
  have b : ¬ plI g.D m ≥ 0 := by rw [pla_no h2]; omega
  unfold stA; rw [if_neg a, if_neg b]
/-- the three cases of a message -/
theorem stA_cases {g : Gp} (m : Int) : (∃ e ∈ g.P, e.1 = m ∧ stA g m = (e, true)) ∨ ((∀ e ∈ g.P, e.1 ≠ m) ∧ ∃ e ∈ g.D, e.1 = m ∧ stA g m = (e, true)) ∨ ((∀ e ∈ g.P, e.1 ≠ m) ∧ (∀ e ∈ g.D, e.1 ≠ m) ∧ stA g m = (en0, false)) := by
  by_cases h1 : plI g.P m ≥ 0
  · obtain ⟨a, b, c⟩ := plI_ge h1
    exact .inl ⟨_, b, c, by unfold stA; rw [if_pos h1]⟩
  · by_cases h2 : plI g.D m ≥ 0
    · obtain ⟨a, b, c⟩ := plI_ge h2
      exact .inr (.inl ⟨plI_lt h1, _, b, c, by unfold stA; rw [if_neg h1, if_pos h2]⟩)
    · exact .inr (.inr ⟨plI_lt h1, plI_lt h2, stA_no (plI_lt h1) (plI_lt h2)⟩)

/-! ### proposals -/
/-- the three ways of a proposal in a valid group -/
theorem prA_cases {g : Gp} (h : Vd g) (m : Int) (hm : msB m = true) :
    (∃ e ∈ g.P, e.1 = m ∧ e.2.2 = false ∧ stA g m = (e, true) ∧ prA g m = (g, e.2.1, true)) ∨
    ((∃ e, (e ∈ g.P ∨ e ∈ g.D) ∧ e.1 = m ∧ e.2.2 = true ∧ stA g m = (e, true)) ∧ prA g m = (g, (0, 0), false)) ∨
    (stA g m = (en0, false) ∧ (∀ e ∈ g.P, e.1 ≠ m) ∧ (∀ e ∈ g.D, e.1 ≠ m) ∧ ((g.ck = 999 ∧ prA g m = (g, (0, 0), false)) ∨
      (g.ck < 999 ∧ prA g m = (⟨g.id, g.ck + 1, g.P ++ [(m, (g.ck + 1, g.id), false)], g.D⟩, (g.ck + 1, g.id), true) ∧ Vd ⟨g.id, g.ck + 1, g.P ++ [(m, (g.ck + 1, g.id), false)], g.D⟩))) := by
  rcases stA_cases (g := g) m with ⟨e, he, e1, hs⟩ | ⟨hP, e, he, e1, hs⟩ | ⟨hP, hD, hs⟩
  · obtain ⟨a, b, _⟩ := pla_mem h.P he
    rw [e1] at a b
    cases hf : e.2.2 with
    | false => exact .inl ⟨e, he, e1, hf, hs, by unfold prA; rw [if_pos ⟨a, by rw [b]; exact hf⟩, b]⟩
    | true => exact .inr (.inl ⟨⟨e, .inl he, e1, hf, hs⟩, by unfold prA; rw [if_neg (by rw [b, hf]; simp), if_pos (.inl a)]⟩)
  · obtain ⟨a, b, _⟩ := pla_mem h.D he
    rw [e1] at a b
    have c : ¬ plI g.P m ≥ 0 := by rw [pla_no hP]; omega
    exact .inr (.inl ⟨⟨e, .inr he, e1, h.2.2.2.2.1 e he, hs⟩, by unfold prA; rw [if_neg (fun h => c h.1), if_pos (.inr (.inl a))]⟩)
  · have a : ¬ plI g.P m ≥ 0 := by rw [pla_no hP]; omega
    have b : ¬ plI g.D m ≥ 0 := by rw [pla_no hD]; omega
    refine .inr (.inr ⟨hs, hP, hD, ?_⟩)
    have hck := h.2.2.1
    by_cases hc : g.ck ≥ 999
    · exact .inl ⟨by omega, by unfold prA; rw [if_neg (fun h => a h.1), if_pos (.inr (.inr hc))]⟩
    · refine .inr ⟨by omega, by unfold prA; rw [if_neg (fun h => a h.1), if_neg (by rintro (h | h | h) <;> contradiction)], ?_⟩
      have hlt : ∀ e, e ∈ g.D ∨ e ∈ g.P → ltS e.2.1 (g.ck + 1, g.id) = true := fun e he => by
        have := (okE_true.1 (h.ok he)).2.2.1
        exact lexB_true.2 (.inl (by show e.2.1.1 < g.ck + 1; omega))
      have hgr := grB_true.1 h.1
      refine ⟨h.1, by show 0 ≤ g.ck + 1; have := h.2.1; omega, by show g.ck + 1 ≤ 999; omega, ⟨fun e he => ?_, ?_⟩, h.2.2.2.2.1, ?_⟩
      · show okE g.id (g.ck + 1) e = true
        rcases List.mem_append.1 he with he | he
        · exact okE_more (h.ok (.inl he)) (by omega)
        · rcases List.mem_append.1 he with he | he
          · exact okE_more (h.ok (.inr he)) (by omega)
          · rw [List.mem_singleton.1 he, okE_true]
            refine ⟨hm, stB_true.2 ?_, Int.le_refl _, .inr rfl⟩
            have := h.2.1
            show 1 ≤ g.ck + 1 ∧ g.ck + 1 ≤ 999 ∧ 0 ≤ g.id ∧ g.id ≤ 4
            omega
      · show (g.D ++ (g.P ++ [(m, (g.ck + 1, g.id), false)])).Pairwise relE
        rw [← List.append_assoc, List.pairwise_append]
        refine ⟨h.2.2.2.1.2, List.pairwise_singleton _ _, fun a ha b hb => ?_⟩
        rw [List.mem_singleton.1 hb]
        refine ⟨hlt a (List.mem_append.1 ha), ?_⟩
        rcases List.mem_append.1 ha with ha | ha
        · exact hD a ha
        · exact hP a ha
      · show ((g.P ++ [(m, (g.ck + 1, g.id), false)]).head?.all fun e => !e.2.2) = true
        have := h.2.2.2.2.2
        cases hp : g.P with
        | nil => rfl
        | cons p l => rw [hp] at this; exact this

/-! ### final stamps -/
theorem tld_app {l m : List En} (h : ∀ e ∈ l, e.2.2 = true) : tld (l ++ m) = l ++ tld m := List.takeWhile_append_of_pos h

theorem lft_app {l m : List En} (h : ∀ e ∈ l, e.2.2 = true) : lft (l ++ m) = lft m := List.dropWhile_append_of_pos h

theorem tld_lft (l : List En) : tld l ++ lft l = l := List.takeWhile_append_dropWhile

theorem tld_final (l : List En) : ∀ e ∈ tld l, e.2.2 = true := fun _ he => mem_while (p := fun e : En => e.2.2) he

theorem lft_head (l : List En) : ((lft l).head?.all fun e => !e.2.2) = true := by
  induction l with
  | nil => rfl
  | cons x l ih =>
    cases h : x.2.2 with
    | true => simpa [lft, h] using ih
    | false => simp [lft, h]

theorem tld_none {l : List En} (h : (l.head?.all fun e => !e.2.2) = true) : tld l = [] := by
  cases l with
  | nil => rfl
  | cons x l =>
    have hx : x.2.2 = false := by simpa using h
    simp [tld, hx]

theorem lft_none {l : List En} (h : (l.head?.all fun e => !e.2.2) = true) : lft l = l := by
  have := tld_lft l
  rw [tld_none h] at this
  simpa using this
/-- what it means that a final stamp is taken -/
def FiIs (g : Gp) (m : Int) (s : St) (x : En) : Prop := x ∈ g.P ∧ x.1 = m ∧ x.2.2 = false ∧ ltS s x.2.1 = false ∧ ∀ e, e ∈ g.D ∨ e ∈ g.P → e.1 ≠ m → e.2.1 ≠ s

theorem rst_mem {g : Gp} (h : Vd g) {x : En} (hx : x ∈ g.P) : (∀ e, e ∈ rst g.P x.1 ↔ (e ∈ g.P ∧ e.1 ≠ x.1)) ∧ g.P.Perm (x :: rst g.P x.1) := by
  obtain ⟨_, h2, h3⟩ := pla_mem h.P hx
  have hp := rst_perm (l := g.P) (m := x.1) rfl h3
  rw [h2] at hp
  refine ⟨fun e => ⟨fun he => ⟨hp.mem_iff.2 (List.mem_cons_of_mem _ he), ?_⟩, fun ⟨he, hne⟩ => ?_⟩, hp⟩
  · have hn := (rel_iff.1 h.P.2).2
    have hn2 := (hp.map fun e => e.1).nodup_iff.1 hn
    rw [List.map_cons, List.nodup_cons] at hn2
    intro e1
    have h9 : e.1 ∈ (rst g.P x.1).map (fun e => e.1) := List.mem_map_of_mem he
    rw [e1] at h9
    exact hn2.1 h9
  · rcases List.mem_cons.1 (hp.mem_iff.1 he) with e1 | e1
    · exact absurd (by rw [e1]) hne
    · exact e1

theorem fiOk_iff {g : Gp} (h : Vd g) (m : Int) (s : St) : fiOk g m s = true ↔ ∃ x, FiIs g m s x := by
  constructor
  · intro hf
    simp only [fiOk, Bool.and_eq_true, decide_eq_true_eq, Bool.not_eq_true', Bool.and_eq_false_iff, decide_eq_false_iff_not] at hf
    obtain ⟨⟨⟨h1, h2⟩, h3⟩, h4⟩ := hf
    obtain ⟨a, b, c⟩ := plI_ge h1
    refine ⟨atE g.P (pla g.P m), b, c, h2, h3, fun e he hne hs => ?_⟩
    have hD : ∀ d ∈ g.D, ltS d.2.1 s = true := fun d hd => by
      have h5 := (h.lt hd b).1
      cases h6 : ltS d.2.1 s with
      | true => rfl
      | false => exact absurd h5 (by rw [ltS_ntrans h6 h3]; simp)
    rcases he with he | he
    · have := hD e he
      rw [hs, ltS_irr] at this; cases this
    · have hr := ((rst_mem h b).1 e).2 ⟨he, by rw [c]; exact hne⟩
      rw [c] at hr
      have ht := (tkn h.ascP m s).2 ⟨e, hr, hs⟩
      rcases h4 with h4 | h4
      · exact h4 ht.1
      · exact h4 ht.2
  · rintro ⟨x, hx, hm, hf, hlt, hne⟩
    obtain ⟨h1, h2, h3⟩ := pla_mem h.P hx
    rw [hm] at h1 h2 h3
    simp only [fiOk, Bool.and_eq_true, decide_eq_true_eq, Bool.not_eq_true', Bool.and_eq_false_iff, decide_eq_false_iff_not]
    rw [h2]
    refine ⟨⟨⟨h1, hf⟩, hlt⟩, ?_⟩
    by_cases ht : cnt (rst g.P m) s < (rst g.P m).length ∧ keyE (rst g.P m) (cnt (rst g.P m) s) = s
    · obtain ⟨e, he, hs⟩ := (tkn h.ascP m s).1 ht
      have := ((rst_mem h hx).1 e).1 (by rw [hm]; exact he)
      exact absurd hs (hne e (.inr this.1) (by rw [← hm]; exact this.2))
    · by_cases h5 : cnt (rst g.P m) s < (rst g.P m).length
      · exact .inr (fun h6 => ht ⟨h5, h6⟩)
      · exact .inl h5
/-- the group behind a final stamp -/
def fiG (g : Gp) (m : Int) (s : St) : Gp := ⟨g.id, max g.ck s.1, lft (ins g.P m s), g.D ++ tld (ins g.P m s)⟩

theorem fiA_yes {g : Gp} {m : Int} {s : St} (h : fiOk g m s = true) : fiA g m s = (fiG g m s, msgs (tld (ins g.P m s)), true) := by unfold fiA fiG; rw [if_pos h]

theorem fiA_no {g : Gp} {m : Int} {s : St} (h : fiOk g m s = false) : fiA g m s = (g, [], false) := by unfold fiA; rw [h]; rfl

theorem fiG_all (g : Gp) (m : Int) (s : St) : (fiG g m s).D ++ (fiG g m s).P = g.D ++ ins g.P m s := by
  show (g.D ++ tld (ins g.P m s)) ++ lft (ins g.P m s) = _
  rw [List.append_assoc, tld_lft]

theorem ins_mem {g : Gp} (h : Vd g) {m : Int} {s : St} {x : En} (hx : FiIs g m s x) (e : En) : e ∈ ins g.P m s ↔ (e = (m, s, true) ∨ (e ∈ g.P ∧ e.1 ≠ m)) := by
  rw [(ins_perm g.P m s).mem_iff, List.mem_cons]
  have := (rst_mem h hx.1).1 e
  rw [hx.2.1] at this
  rw [this]

theorem fiG_valid {g : Gp} (h : Vd g) {m : Int} {s : St} {x : En} (hx : FiIs g m s x) (hm : msB m = true) (hs : okS s = true) : Vd (fiG g m s) := by
  have hgr := h.1
  have hns : ∀ e ∈ rst g.P m, e.2.1 ≠ s := fun e he => by
    have := ((rst_mem h hx.1).1 e).1 (by rw [hx.2.1]; exact he)
    exact hx.2.2.2.2 e (.inr this.1) (by rw [← hx.2.1]; exact this.2)
  have hmem := ins_mem h hx
  have hs9 := stB_true.1 hs
  refine ⟨hgr, by show 0 ≤ max g.ck s.1; have := h.2.1; omega, by show max g.ck s.1 ≤ 999; have := h.2.2.1; omega, ?_, ?_, lft_head _⟩
  · rw [fiG_all]
    refine ⟨fun e he => ?_, rel_iff.2 ⟨?_, ?_⟩⟩
    · show okE g.id (max g.ck s.1) e = true
      rcases List.mem_append.1 he with he | he
      · exact okE_more (h.ok (.inl he)) (by omega)
      · rcases (hmem e).1 he with e1 | ⟨e1, _⟩
        · rw [e1, okE_true]
          exact ⟨hm, hs, by show s.1 ≤ max g.ck s.1; omega, .inl rfl⟩
        · exact okE_more (h.ok (.inr e1)) (by omega)
    · unfold AscE
      rw [List.pairwise_append]
      refine ⟨rel_asc h.D.2, ins_asc h.ascP m s hns, fun d hd e he => ?_⟩
      rcases (hmem e).1 he with e1 | ⟨e1, _⟩
      · rw [e1]
        have h5 := (h.lt hd hx.1).1
        cases h6 : ltS d.2.1 s with
        | true => rfl
        | false => exact absurd h5 (by rw [ltS_ntrans h6 hx.2.2.2.1]; simp)
      · exact (h.lt hd e1).1
    · have h1 := (rel_iff.1 h.2.2.2.1.2).2
      have hp : ((g.D ++ ins g.P m s).map fun e => e.1).Perm ((g.D ++ g.P).map fun e => e.1) := by
        rw [List.map_append, List.map_append]
        refine List.Perm.append (List.Perm.refl _) ?_
        have a := (ins_perm g.P m s).map fun e => e.1
        have b := (rst_mem h hx.1).2.map fun e => e.1
        rw [hx.2.1] at b
        refine a.trans ?_
        have e : (((m, s, true) : En) :: rst g.P m).map (fun e => e.1) = (x :: rst g.P m).map (fun e => e.1) := by simp [hx.2.1]
        rw [e]; exact b.symm
      exact hp.nodup_iff.2 h1
  · intro e he
    rcases List.mem_append.1 he with he | he
    · exact h.2.2.2.2.1 e he
    · exact tld_final _ e he
/-- the new entry is known -/
theorem fiG_entry {g : Gp} (h : Vd g) {m : Int} {s : St} {x : En} (hx : FiIs g m s x) (hm : msB m = true) (hs : okS s = true) : stA (fiG g m s) m = ((m, s, true), true) := by
  have hv := fiG_valid h hx hm hs
  have he : ((m, s, true) : En) ∈ (fiG g m s).D ++ (fiG g m s).P := by
    rw [fiG_all]; exact List.mem_append_right _ ((ins_mem h hx _).2 (.inl rfl))
  rcases List.mem_append.1 he with he | he
  · have h9 := stA_D (e := ((m, s, true) : En)) hv he
    simp only at h9
    rw [h9]
  · have h9 := stA_P (e := ((m, s, true) : En)) hv he
    simp only at h9
    rw [h9]

/-- two ascending lists of the same entries are one -/
theorem asc_eq : ∀ {l m : List En}, AscE l → AscE m → l.Perm m → l = m
  | [], m, _, _, h => by rw [List.nil_perm.1 h]
  | x :: l, [], _, _, h => by have := h.length_eq; simp at this
  | x :: l, y :: m, hl, hm, h => by
    have hx : x ∈ y :: m := h.mem_iff.1 (by simp)
    have hy : y ∈ x :: l := h.mem_iff.2 (by simp)
    have e : x = y := by
      rcases List.mem_cons.1 hx with e | e
      · exact e
      · rcases List.mem_cons.1 hy with e2 | e2
        · exact e2.symm
        · have h1 := (List.pairwise_cons.1 hl).1 y e2
          have h2 := (List.pairwise_cons.1 hm).1 x e
          rw [ltS_asymm h1] at h2; cases h2
    subst e
    have h2 := (List.perm_cons x).1 h
    rw [asc_eq (List.pairwise_cons.1 hl).2 (List.pairwise_cons.1 hm).2 h2]
/-- a valid group is its number, its clock, and all of its entries -/
theorem gp_eq {g k : Gp} (hg : Vd g) (hk : Vd k) (h1 : g.id = k.id) (h2 : g.ck = k.ck) (h3 : (g.D ++ g.P).Perm (k.D ++ k.P)) : g = k := by
  have e := asc_eq (rel_asc hg.2.2.2.1.2) (rel_asc hk.2.2.2.1.2) h3
  have gD : tld (g.D ++ g.P) = g.D := by rw [tld_app hg.2.2.2.2.1, tld_none hg.2.2.2.2.2]; simp
  have kD : tld (k.D ++ k.P) = k.D := by rw [tld_app hk.2.2.2.2.1, tld_none hk.2.2.2.2.2]; simp
  have gP : lft (g.D ++ g.P) = g.P := by rw [lft_app hg.2.2.2.2.1, lft_none hg.2.2.2.2.2]
  have kP : lft (k.D ++ k.P) = k.P := by rw [lft_app hk.2.2.2.2.1, lft_none hk.2.2.2.2.2]
  have hD : g.D = k.D := by rw [← gD, ← kD, e]
  have hP : g.P = k.P := by rw [← gP, ← kP, e]
  cases g; cases k
  simp only at h1 h2 hD hP
  rw [h1, h2, hD, hP]
/-- all entries behind a final stamp -/
theorem fiG_perm {g : Gp} (h : Vd g) {m : Int} {s : St} {x : En} (hx : FiIs g m s x) : ∃ R, (g.D ++ g.P).Perm (x :: R) ∧ ((fiG g m s).D ++ (fiG g m s).P).Perm ((m, s, true) :: R) := by
  refine ⟨g.D ++ rst g.P m, ?_, ?_⟩
  · have := (rst_mem h hx.1).2
    rw [hx.2.1] at this
    exact (List.Perm.append (List.Perm.refl _) this).trans List.perm_middle
  · rw [fiG_all]
    exact (List.Perm.append (List.Perm.refl _) (ins_perm g.P m s)).trans List.perm_middle
/-- what is pending and not final stays so, but for the message itself -/
theorem fiG_open {g : Gp} (h : Vd g) {m : Int} {s : St} {x : En} (hx : FiIs g m s x) {e : En} : (e ∈ (fiG g m s).D ∨ e ∈ (fiG g m s).P) ↔ (e = (m, s, true) ∨ ((e ∈ g.D ∨ e ∈ g.P) ∧ e.1 ≠ m)) := by
  rw [← List.mem_append, fiG_all, List.mem_append, ins_mem h hx]
  have hd : ∀ d ∈ g.D, d.1 ≠ m := fun d hd => by rw [← hx.2.1]; exact (h.lt hd hx.1).2
  constructor
  · rintro (h1 | h1 | h1)
    · exact .inr ⟨.inl h1, hd e h1⟩
    · exact .inl h1
    · exact .inr ⟨.inr h1.1, h1.2⟩
  · rintro (h1 | ⟨h1 | h1, h2⟩)
    · exact .inr (.inl h1)
    · exact .inl h1
    · exact .inr (.inr ⟨h1, h2⟩)

theorem open_P {g : Gp} (h : Vd g) {e : En} (he : e ∈ g.D ∨ e ∈ g.P) (hf : e.2.2 = false) : e ∈ g.P := by
  rcases he with he | he
  · have := h.2.2.2.2.1 e he
    rw [hf] at this; cases this
  · exact he
/-- the order of two final stamps does not matter -/
theorem fi_comm {g : Gp} (h : Vd g) {m k : Int} {s t : St} (hm : msB m = true) (hs : okS s = true) (hk : msB k = true) (ht : okS t = true)
    (h1 : fiOk g m s = true) (h2 : fiOk (fiG g m s) k t = true) (h3 : fiOk g k t = true) : fiOk (fiG g k t) m s = true ∧ fiG (fiG g k t) m s = fiG (fiG g m s) k t := by
  obtain ⟨x, hx⟩ := (fiOk_iff h m s).1 h1
  obtain ⟨y, hy⟩ := (fiOk_iff h k t).1 h3
  have v1 := fiG_valid h hx hm hs
  have v2 := fiG_valid h hy hk ht
  obtain ⟨z, hz⟩ := (fiOk_iff v1 k t).1 h2
  have hne : k ≠ m := by
    intro e
    subst e
    have h4 := stA_P v1 hz.1
    rw [hz.2.1, fiG_entry h hx hm hs] at h4
    injection h4 with h4 _
    have := hz.2.2.1
    rw [← h4] at this; cases this
  have hzy : z = y := by
    rcases (fiG_open h hx).1 (.inr hz.1) with e | ⟨e, _⟩
    · have := hz.2.1
      rw [e] at this
      exact absurd this.symm hne
    · exact same_msg h.P (open_P h e hz.2.2.1) hy.1 (by rw [hz.2.1, hy.2.1])
  subst hzy
  have hx2 : FiIs (fiG g k t) m s x := by
    have hin : x ∈ (fiG g k t).D ∨ x ∈ (fiG g k t).P := (fiG_open h hy).2 (.inr ⟨.inr hx.1, by rw [hx.2.1]; exact fun e => hne e.symm⟩)
    refine ⟨open_P v2 hin hx.2.2.1, hx.2.1, hx.2.2.1, hx.2.2.2.1, fun e he hem hes => ?_⟩
    rcases (fiG_open h hy).1 he with e1 | ⟨e1, _⟩
    · have := hz.2.2.2.2 (m, s, true) ((fiG_open h hx).2 (.inl rfl)) (fun e => hne e.symm)
      rw [e1] at hes
      exact this hes.symm
    · exact hx.2.2.2.2 e e1 hem hes
  have ok2 := (fiOk_iff v2 m s).2 ⟨x, hx2⟩
  refine ⟨ok2, gp_eq (fiG_valid v2 hx2 hm hs) (fiG_valid v1 hz hk ht) rfl (by show max (max g.ck t.1) s.1 = max (max g.ck s.1) t.1; omega) ?_⟩
  obtain ⟨R1, a1, b1⟩ := fiG_perm h hx
  obtain ⟨R2, a2, b2⟩ := fiG_perm h hy
  obtain ⟨R3, a3, b3⟩ := fiG_perm v1 hz
  obtain ⟨R4, a4, b4⟩ := fiG_perm v2 hx2
  -- all four rests are the same entries
  have hxz : x ≠ z := fun e => hne (by rw [← hz.2.1, ← e, hx.2.1])
  have c1 : (x :: R1).Perm (z :: R2) := a1.symm.trans a2
  have c3 : (((m, s, true) : En) :: R1).Perm (z :: R3) := b1.symm.trans a3
  have c4 : (((k, t, true) : En) :: R2).Perm (x :: R4) := b2.symm.trans a4
  refine b4.trans (List.Perm.trans ?_ b3.symm)
  have hz1 : z ∈ R1 := by
    rcases List.mem_cons.1 (c1.mem_iff.2 (by simp : z ∈ z :: R2)) with e | e
    · exact absurd e.symm hxz
    · exact e
  obtain ⟨R, hR⟩ : ∃ R, R1.Perm (z :: R) := ⟨R1.erase z, List.perm_cons_erase hz1⟩
  have d2 : R2.Perm (x :: R) := by
    have : (z :: R2).Perm (z :: x :: R) := c1.symm.trans (((List.perm_cons x).2 hR).trans (List.Perm.swap z x R))
    exact (List.perm_cons z).1 this
  have d3 : R3.Perm ((m, s, true) :: R) := by
    have : (z :: R3).Perm (z :: (m, s, true) :: R) := c3.symm.trans (((List.perm_cons _).2 hR).trans (List.Perm.swap z _ R))
    exact (List.perm_cons z).1 this
  have d4 : R4.Perm ((k, t, true) :: R) := by
    have : (x :: R4).Perm (x :: (k, t, true) :: R) := c4.symm.trans (((List.perm_cons _).2 d2).trans (List.Perm.swap x _ R))
    exact (List.perm_cons x).1 this
  exact ((List.perm_cons _).2 d4).trans ((List.Perm.swap _ _ R).trans ((List.perm_cons _).2 d3).symm)
end Go.Proofs.Ytbnmeedmeikepaa
