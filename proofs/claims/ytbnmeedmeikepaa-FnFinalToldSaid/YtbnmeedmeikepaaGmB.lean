/-
  Plain mathematics of the order within a group: groups, what is valid, what GroupPropose and GroupFinal answer. No program, no condition.
-/
import Derived.Test.YtbnmeedmeikepaaGmA
namespace Go.Proofs.Ytbnmeedmeikepaa

/-- a group: its number, its clock, what is pending, what is done -/
structure Gp where
  id : Int
  ck : Int
  P : List En
  D : List En

def gp0 : Gp := ⟨0, 0, [], []⟩

def msB (m : Int) : Bool := inB m 0 11
/-- may the group have the entry, whatever others it has? -/
def okE (id ck : Int) (e : En) : Bool := msB e.1 && okS e.2.1 && decide (e.2.1.1 ≤ ck) && (e.2.2 || decide (e.2.1.2 = id))

theorem okE_true {id ck : Int} {e : En} : okE id ck e = true ↔ (msB e.1 = true ∧ okS e.2.1 = true ∧ e.2.1.1 ≤ ck ∧ (e.2.2 = true ∨ e.2.1.2 = id)) := by
  simp [okE, and_assoc]

abbrev relE (a b : En) : Prop := ltS a.2.1 b.2.1 = true ∧ a.1 ≠ b.1

theorem rel_asc {l : List En} (h : l.Pairwise relE) : AscE l := h.imp fun h => h.1

/-- a list of entries that may stand in a group -/
def LsOk (id ck : Int) (l : List En) : Prop := (∀ e ∈ l, okE id ck e = true) ∧ l.Pairwise relE

instance (id ck : Int) (l : List En) : Decidable (LsOk id ck l) := inferInstanceAs (Decidable (_ ∧ _))

def lsB (id ck : Int) (l : List En) : Bool := decide (LsOk id ck l)

theorem lsB_true {id ck : Int} {l : List En} : lsB id ck l = true ↔ LsOk id ck l := by simp [lsB]

theorem LsOk.nil (id ck : Int) : LsOk id ck [] := ⟨(fun e h => by cases h), List.Pairwise.nil⟩

theorem LsOk.left {id ck : Int} {l m : List En} (h : LsOk id ck (l ++ m)) : LsOk id ck l := ⟨fun e he => h.1 e (List.mem_append_left _ he), (List.pairwise_append.1 h.2).1⟩
/-- one entry more: it is looked at alone, against the last, and for its message -/
theorem LsOk.snoc {id ck : Int} {l : List En} {x : En} : LsOk id ck (l ++ [x]) ↔ (LsOk id ck l ∧ okE id ck x = true ∧ (∀ y, l.getLast? = some y → ltS y.2.1 x.2.1 = true) ∧ ∀ y ∈ l, y.1 ≠ x.1) := by
  constructor
  · intro h
    have hp := List.pairwise_append.1 h.2
    exact ⟨h.left, h.1 x (by simp), fun y hy => (hp.2.2 y (List.mem_of_getLast? hy) x (by simp)).1, fun y hy => (hp.2.2 y hy x (by simp)).2⟩
  · rintro ⟨h, hx, hl, hm⟩
    refine ⟨fun e he => ?_, List.pairwise_append.2 ⟨h.2, List.pairwise_singleton _ _, fun a ha b hb => ?_⟩⟩
    · rcases List.mem_append.1 he with he | he
      · exact h.1 e he
      · rw [List.mem_singleton.1 he]; exact hx
    · rw [List.mem_singleton.1 hb]
      refine ⟨?_, hm a ha⟩
      rcases List.eq_nil_or_concat l with e | ⟨l', y, e⟩
      · rw [e] at ha; cases ha
      · have e : l = l' ++ [y] := by rw [e]; simp
        have hy := hl y (by rw [e]; simp)
        rw [e] at ha
        rcases List.mem_append.1 ha with ha | ha
        · have := h.2
          rw [e] at this
          exact ltS_trans ((List.pairwise_append.1 this).2.2 a ha y (by simp)).1 hy
        · rw [List.mem_singleton.1 ha]; exact hy

/-- a valid group -/
def Vd (g : Gp) : Prop := grB g.id = true ∧ 0 ≤ g.ck ∧ g.ck ≤ 999 ∧ LsOk g.id g.ck (g.D ++ g.P) ∧ (∀ e ∈ g.D, e.2.2 = true) ∧ (g.P.head?.all fun e => !e.2.2) = true

instance (g : Gp) : Decidable (Vd g) := inferInstanceAs (Decidable (_ ∧ _))

def vdB (g : Gp) : Bool := decide (Vd g)

theorem vdB_true {g : Gp} : vdB g = true ↔ Vd g := by simp [vdB]

theorem vdB_false {g : Gp} : vdB g = false ↔ ¬ Vd g := by simp [vdB]

theorem head_final {g : Gp} {e : En} {l : List En} (h : Vd g) (hP : g.P = e :: l) : e.2.2 = false := by
  have := h.2.2.2.2.2
  rw [hP] at this
  simpa using this

theorem Vd.P {g : Gp} (h : Vd g) : LsOk g.id g.ck g.P := ⟨fun e he => h.2.2.2.1.1 e (List.mem_append_right _ he), (List.pairwise_append.1 h.2.2.2.1.2).2.1⟩

theorem Vd.D {g : Gp} (h : Vd g) : LsOk g.id g.ck g.D := h.2.2.2.1.left

theorem Vd.ascP {g : Gp} (h : Vd g) : AscE g.P := rel_asc h.P.2

/-- what the model looks at -/
theorem Vd_model {g : Gp} : Vd g ↔ (grB g.id = true ∧ 0 ≤ g.ck ∧ g.ck ≤ 999 ∧ LsOk g.id g.ck g.P ∧ LsOk g.id g.ck g.D ∧ (∀ e ∈ g.D, e.2.2 = true ∧ ∀ p ∈ g.P, p.1 ≠ e.1) ∧
    (∀ p l, g.P = p :: l → p.2.2 = false ∧ ∀ d, g.D.getLast? = some d → ltS d.2.1 p.2.1 = true)) := by
  constructor
  · intro h
    have hp := List.pairwise_append.1 h.2.2.2.1.2
    refine ⟨h.1, h.2.1, h.2.2.1, h.P, h.D, fun e he => ⟨h.2.2.2.2.1 e he, fun p hp2 he2 => (hp.2.2 e he p hp2).2 he2.symm⟩, fun p l hl => ⟨head_final h hl, fun d hd => ?_⟩⟩
    exact (hp.2.2 d (List.mem_of_getLast? hd) p (by rw [hl]; simp)).1
  · rintro ⟨h1, h2, h3, hP, hD, hf, hh⟩
    refine ⟨h1, h2, h3, ⟨fun e he => ?_, List.pairwise_append.2 ⟨hD.2, hP.2, fun a ha b hb => ⟨?_, fun e => (hf a ha).2 b hb e.symm⟩⟩⟩, fun e he => (hf e he).1, ?_⟩
    · rcases List.mem_append.1 he with he | he
      · exact hD.1 e he
      · exact hP.1 e he
    · cases hPc : g.P with
      | nil => rw [hPc] at hb; cases hb
      | cons p l =>
        rcases List.eq_nil_or_concat g.D with e | ⟨D', y, e⟩
        · rw [e] at ha; cases ha
        · have e : g.D = D' ++ [y] := by rw [e]; simp
          have hy := (hh p l hPc).2 y (by rw [e]; simp)
          have hay : ltS a.2.1 y.2.1 = true ∨ a = y := by
            rw [e] at ha
            rcases List.mem_append.1 ha with ha | ha
            · have := hD.2
              rw [e] at this
              exact .inl ((List.pairwise_append.1 this).2.2 a ha y (by simp)).1
            · exact .inr (List.mem_singleton.1 ha)
          have hap : ltS a.2.1 p.2.1 = true := by
            rcases hay with h | h
            · exact ltS_trans h hy
            · rw [h]; exact hy
          rw [hPc] at hb
          rcases List.mem_cons.1 hb with hb | hb
          · rw [hb]; exact hap
          · have := hP.2
            rw [hPc] at this
            exact ltS_trans hap ((List.pairwise_cons.1 this).1 b hb).1
    · cases hPc : g.P with
      | nil => rfl
      | cons p l => simp [(hh p l hPc).1]

/-! ### the entry of a message -/
/-- the place of a message in a list; the length, if there is none -/
def pla (l : List En) (m : Int) : Nat := l.findIdx fun e => e.1 == m

theorem pla_le (l : List En) (m : Int) : pla l m ≤ l.length := List.findIdx_le_length
/-- as the model says it -/
def plI (l : List En) (m : Int) : Int := if pla l m < l.length then (pla l m : Int) else -1

theorem plI_hit {l : List En} {m : Int} {k : Nat} {x : En} (hx : l[k]? = some x) (hm : x.1 = m) (hlow : ∀ j y, j < k → l[j]? = some y → y.1 ≠ m) : pla l m = k ∧ plI l m = k := by
  obtain ⟨hk, e⟩ := List.getElem?_eq_some_iff.1 hx
  have h : pla l m = k := by
    unfold pla
    rw [List.findIdx_eq hk]
    refine ⟨by rw [e]; simp [hm], fun j hj => ?_⟩
    have hjl : j < l.length := by omega
    have := hlow j l[j] hj (List.getElem?_eq_getElem hjl)
    simpa using this
  exact ⟨h, by unfold plI; rw [h, if_pos hk]⟩

theorem plI_miss {l : List En} {m : Int} (h : ∀ e ∈ l, e.1 ≠ m) : pla l m = l.length ∧ plI l m = -1 := by
  have h1 : pla l m = l.length := by
    unfold pla
    rw [List.findIdx_eq_length]
    intro e he
    have := h e he
    simpa using this
  exact ⟨h1, by unfold plI; rw [h1, if_neg (by omega)]⟩

theorem pla_cases (l : List En) (m : Int) : (∃ (k : Nat) (x : En), pla l m = k ∧ plI l m = k ∧ k < l.length ∧ l[k]? = some x ∧ x.1 = m ∧ ∀ j y, j < k → l[j]? = some y → y.1 ≠ m) ∨ (pla l m = l.length ∧ plI l m = -1 ∧ ∀ e ∈ l, e.1 ≠ m) := by
  by_cases h : pla l m < l.length
  · left
    have h1 : ((l[pla l m]).1 == m) = true := by
      unfold pla at h ⊢
      exact List.findIdx_getElem (xs := l) (p := fun e : En => e.1 == m) (w := h)
    refine ⟨pla l m, l[pla l m], rfl, by unfold plI; rw [if_pos h], h, List.getElem?_eq_getElem h, by simpa using h1, fun j y hj hy => ?_⟩
    obtain ⟨hjl, e⟩ := List.getElem?_eq_some_iff.1 hy
    have h2 := List.not_of_lt_findIdx (xs := l) (p := fun e => e.1 == m) hj
    rw [← e]
    simpa using h2
  · right
    have hall : ∀ e ∈ l, e.1 ≠ m := by
      intro e he hm
      have := List.findIdx_lt_length_of_exists (p := fun e : En => e.1 == m) (xs := l) ⟨e, he, by simp [hm]⟩
      exact h this
    exact ⟨(plI_miss hall).1, (plI_miss hall).2, hall⟩

/-! ### what the functions answer -/
/-- the answer to a proposal, in any group -/
def prA (g : Gp) (m : Int) : Gp × St × Bool :=
  if plI g.P m ≥ 0 ∧ (atE g.P (pla g.P m)).2.2 = false then (g, (atE g.P (pla g.P m)).2.1, true)
  else if plI g.P m ≥ 0 ∨ plI g.D m ≥ 0 ∨ g.ck ≥ 999 then (g, (0, 0), false)
  else (⟨g.id, g.ck + 1, g.P ++ [(m, (g.ck + 1, g.id), false)], g.D⟩, (g.ck + 1, g.id), true)

def prR (g : Gp) (m : Int) : Gp × St × Bool := if vdB g && msB m then prA g m else (gp0, (0, 0), false)

theorem mem_while {p : En → Bool} : ∀ {l : List En} {e : En}, e ∈ l.takeWhile p → p e = true
  | [], e, h => by cases h
  | x :: l, e, h => by
    cases hx : p x with
    | false => simp [hx] at h
    | true =>
      rw [List.takeWhile_cons_of_pos hx] at h
      rcases List.mem_cons.1 h with h | h
      · rw [h]; exact hx
      · exact mem_while h
/-- how many at the head are less than a stamp -/
def cnt (l : List En) (s : St) : Nat := (l.takeWhile fun e => ltS e.2.1 s).length

theorem cnt_le (l : List En) (s : St) : cnt l s ≤ l.length := by
  unfold cnt
  exact List.IsPrefix.length_le (List.takeWhile_prefix _)

theorem cnt_is {l : List En} {s : St} {n : Nat} (hn : n ≤ l.length) (hlow : ∀ j y, j < n → l[j]? = some y → ltS y.2.1 s = true) (hst : ∀ y, l[n]? = some y → ltS y.2.1 s = false) : cnt l s = n := by
  induction l generalizing n with
  | nil => simp at hn; subst hn; rfl
  | cons x l ih =>
    cases n with
    | zero =>
      have := hst x (by simp)
      simp [cnt, this]
    | succ n =>
      have h0 := hlow 0 x (by omega) (by simp)
      have := ih (n := n) (by simpa using hn) (fun j y hj hy => hlow (j + 1) y (by omega) (by simpa using hy)) (fun y hy => hst y (by simpa using hy))
      unfold cnt at this ⊢
      simp [h0, this]
/-- the others -/
def rst (l : List En) (m : Int) : List En := l.take (pla l m) ++ l.drop (pla l m + 1)
/-- the list with the final stamp in its place -/
def ins (l : List En) (m : Int) (s : St) : List En := (rst l m).take (cnt (rst l m) s) ++ [(m, s, true)] ++ (rst l m).drop (cnt (rst l m) s)

def fiOk (g : Gp) (m : Int) (s : St) : Bool :=
  decide (plI g.P m ≥ 0) && !(atE g.P (pla g.P m)).2.2 && !ltS s (atE g.P (pla g.P m)).2.1 && !(decide (cnt (rst g.P m) s < (rst g.P m).length) && decide (keyE (rst g.P m) (cnt (rst g.P m) s) = s))

def tld (l : List En) : List En := l.takeWhile fun e => e.2.2

def lft (l : List En) : List En := l.dropWhile fun e => e.2.2

def msgs (l : List En) : List Int := l.map fun e => e.1
/-- the answer to a final stamp, in any group -/
def fiA (g : Gp) (m : Int) (s : St) : Gp × List Int × Bool :=
  if fiOk g m s then (⟨g.id, max g.ck s.1, lft (ins g.P m s), g.D ++ tld (ins g.P m s)⟩, msgs (tld (ins g.P m s)), true) else (g, [], false)

def fiR (g : Gp) (m : Int) (s : St) : Gp × List Int × Bool := if vdB g && (msB m && okS s) then fiA g m s else (gp0, [], false)
/-- the entry of a message: pending first -/
def stA (g : Gp) (m : Int) : En × Bool :=
  if plI g.P m ≥ 0 then (atE g.P (pla g.P m), true) else if plI g.D m ≥ 0 then (atE g.D (pla g.D m), true) else (en0, false)

def stR (g : Gp) (m : Int) : En × Bool := if vdB g then stA g m else (en0, false)

def blR (g : Gp) : Int := if vdB g then (match g.P with | [] => -1 | e :: _ => e.1) else -1

def trR (g : Gp) : List Int := if vdB g then msgs g.D else []

def nwR (id : Int) : Gp × Bool := if grB id then (⟨id, 0, [], []⟩, true) else (gp0, false)

/-! ### a final stamp among others -/
theorem rst_perm {l : List En} {m : Int} {k : Nat} (hk : pla l m = k) (hl : k < l.length) : l.Perm (atE l k :: rst l m) := by
  have e1 : l = l.take k ++ l[k] :: l.drop (k + 1) := by
    rw [List.getElem_cons_drop]; exact (List.take_append_drop k l).symm
  have e2 : atE l k = l[k] := by simp [atE, hl]
  rw [rst, hk, e2]
  have : (l.take k ++ l[k] :: l.drop (k + 1)).Perm (l[k] :: (l.take k ++ l.drop (k + 1))) := List.perm_middle
  rwa [← e1] at this

theorem set_perm {l : List En} {m : Int} {k : Nat} (hk : pla l m = k) (hl : k < l.length) (x : En) : (l.set k x).Perm (x :: rst l m) := by
  have e : l.set k x = l.take k ++ x :: l.drop (k + 1) := List.set_eq_take_append_cons_drop .. |>.trans (by rw [if_pos hl])
  rw [e, rst, hk]
  exact List.perm_middle

theorem ins_perm (l : List En) (m : Int) (s : St) : (ins l m s).Perm ((m, s, true) :: rst l m) := by
  unfold ins
  have h := List.perm_middle (a := ((m, s, true) : En)) (l₁ := (rst l m).take (cnt (rst l m) s)) (l₂ := (rst l m).drop (cnt (rst l m) s))
  rw [List.take_append_drop] at h
  simpa using h

theorem rst_sub (l : List En) (m : Int) : (rst l m).Sublist l := by
  unfold rst
  have h : l = l.take (pla l m) ++ l.drop (pla l m) := (List.take_append_drop _ _).symm
  have h2 : (l.drop (pla l m + 1)).Sublist (l.drop (pla l m)) := by
    rw [← List.drop_drop]; exact List.drop_sublist _ _
  have h3 := List.Sublist.append (List.Sublist.refl (l.take (pla l m))) h2
  rw [← h] at h3
  exact h3

theorem rst_asc {l : List En} (h : AscE l) (m : Int) : AscE (rst l m) := h.sublist (rst_sub l m)

theorem cnt_low {l : List En} {s : St} : ∀ e ∈ l.take (cnt l s), ltS e.2.1 s = true := by
  intro e he
  have h1 : l.take (cnt l s) = l.takeWhile fun e => ltS e.2.1 s := by
    unfold cnt
    exact (List.prefix_iff_eq_take.1 (List.takeWhile_prefix _)).symm
  rw [h1] at he
  exact mem_while (p := fun e : En => ltS e.2.1 s) he

theorem cnt_at {l : List En} {s : St} (h : cnt l s < l.length) : ltS (keyE l (cnt l s)) s = false := by
  induction l with
  | nil => simp at h
  | cons x l ih =>
    cases hx : ltS x.2.1 s with
    | false =>
      have : cnt (x :: l) s = 0 := by simp [cnt, hx]
      rw [this]; exact hx
    | true =>
      have e : cnt (x :: l) s = cnt l s + 1 := by simp [cnt, hx]
      rw [e] at h ⊢
      have := ih (by simpa using h)
      simpa [keyE, atE] using this

theorem ins_asc {l : List En} (h : AscE l) (m : Int) (s : St) (hne : ∀ e ∈ rst l m, e.2.1 ≠ s) : AscE (ins l m s) := by
  have hr := rst_asc h m
  have hlow := cnt_low (l := rst l m) (s := s)
  have hhigh : ∀ e ∈ (rst l m).drop (cnt (rst l m) s), ltS s e.2.1 = true := by
    intro e he
    obtain ⟨j, hj, e1⟩ := List.getElem_of_mem he
    rw [List.getElem_drop] at e1
    rw [List.length_drop] at hj
    have hc := cnt_at (l := rst l m) (s := s) (by omega)
    have hmem : e ∈ rst l m := List.mem_of_mem_drop he
    have hk : ltS e.2.1 s = false := by
      rcases Nat.eq_zero_or_pos j with e0 | e0
      · have : keyE (rst l m) (cnt (rst l m) s) = e.2.1 := by
          subst e0; rw [← e1]; simp [keyE, atE]
          rw [List.getElem?_eq_getElem (by omega)]; rfl
        rw [← this]; exact hc
      · have h2 := hr.key (i := cnt (rst l m) s) (j := cnt (rst l m) s + j) (by omega) (by omega)
        have h3 : keyE (rst l m) (cnt (rst l m) s + j) = e.2.1 := by
          rw [← e1]; simp [keyE, atE]
          rw [List.getElem?_eq_getElem (by omega)]; rfl
        rw [h3] at h2
        exact ltS_ntrans (ltS_asymm h2) hc
    cases h4 : ltS s e.2.1 with
    | true => rfl
    | false => exact absurd (ltS_tot hk h4) (hne e hmem)
  unfold ins AscE
  rw [List.append_assoc, List.pairwise_append]
  refine ⟨List.Pairwise.sublist (List.take_sublist _ _) hr, ?_, ?_⟩
  · rw [List.singleton_append, List.pairwise_cons]
    exact ⟨fun e he => hhigh e he, List.Pairwise.sublist (List.drop_sublist _ _) hr⟩
  · intro a ha b hb
    rcases List.mem_append.1 hb with hb | hb
    · rw [List.mem_singleton.1 hb]; exact hlow a ha
    · exact ltS_trans (hlow a ha) (hhigh b hb)
/-- in an ascending list: the stamp is taken or not, as the model finds out -/
theorem tkn {l : List En} (h : AscE l) (m : Int) (s : St) : (cnt (rst l m) s < (rst l m).length ∧ keyE (rst l m) (cnt (rst l m) s) = s) ↔ ∃ e ∈ rst l m, e.2.1 = s := by
  constructor
  · rintro ⟨h1, h2⟩
    exact ⟨atE (rst l m) (cnt (rst l m) s), by simp [atE, h1], h2⟩
  · rintro ⟨e, he, hs⟩
    obtain ⟨j, hj, e1⟩ := List.getElem_of_mem he
    have hc : cnt (rst l m) s = j := by
      refine cnt_is (by omega) (fun i y hi hy => ?_) (fun y hy => ?_)
      · have h2 := (rst_asc h m).key hi hj
        have h3 : keyE (rst l m) i = y.2.1 := by rw [keyE, atE_get hy]
        have h4 : keyE (rst l m) j = s := by rw [← hs, ← e1]; simp [keyE, atE, hj]
        rw [h3, h4] at h2; exact h2
      · have : y = e := by rw [List.getElem?_eq_getElem hj, e1] at hy; injection hy with hy; exact hy.symm
        rw [this, hs]; exact ltS_irr _
    refine ⟨by omega, ?_⟩
    rw [hc, ← hs, ← e1]; simp [keyE, atE, hj]
end Go.Proofs.Ytbnmeedmeikepaa
