/-
  Contract of the model's CreditsStuck. No condition but lengths below 2^40.
-/
import Derived.Test.YtfcoobebebdniaaCdI
import Derived.Test.YtfcoobebebdniaaCdD
import Derived.Deep.QuietTactic
import Derived.StillTailTactics
import Derived.Laws.MakeOwn
import Derived.BigRegion
namespace Go.Proofs.Ytfcoobebebdniaa
open Go.RowKit
set_option linter.unusedVariables false
set_option linter.unusedSimpArgs false

/-- who is seen not to be stuck, as a row of bools -/
def bls (F : Nat → Bool) (n : Nat) : List Value := (List.range n).map fun i => .bool (F i)

def setT (F : Nat → Bool) (i : Nat) (b : Bool) : Nat → Bool := fun j => if j = i then b else F j

theorem bls_len {F : Nat → Bool} {n : Nat} : (bls F n).length = n := by simp [bls]

theorem bls_get {F : Nat → Bool} {n i : Nat} (h : i < n) : (bls F n)[i]? = some (.bool (F i)) := by simp [bls, h]

theorem bls_set {F : Nat → Bool} {n i : Nat} (b : Bool) (h : i < n) : (bls F n).set i (.bool b) = bls (setT F i b) n := by
  apply List.ext_getElem?
  intro j
  rw [List.getElem?_set]
  by_cases e : i = j
  · subst e
    rw [if_pos rfl, if_pos (by rw [bls_len]; exact h), bls_get h]
    simp [setT]
  · rw [if_neg e]
    rcases Nat.lt_or_ge j n with hj | hj
    · rw [bls_get hj, bls_get hj]
      rw [setT, if_neg (fun h => e h.symm)]
    · rw [List.getElem?_eq_none (by rw [bls_len]; exact hj), List.getElem?_eq_none (by rw [bls_len]; exact hj)]
/-- an owned row of bools -/
abbrev OwB (w : World) (lo b n : Nat) (F : Nat → Bool) : Prop := w.ownsRow lo 4 1 (.slice (some ⟨b, 0, none⟩) n n) n (bls F n)

theorem OwB.at_ {w : World} {lo b n i : Nat} {F : Nat → Bool} (h : OwB w lo b n F) (hi : i < n) : w.cell? ⟨b, i, none⟩ = some (.bool (F i)) ∧ w.frozen? ⟨b, i, none⟩ = false := by
  refine ⟨?_, h.frozenAt i⟩
  rw [h.cellAt i (by omega)]
  exact bls_get hi

theorem OwB.put {w : World} {lo b n i : Nat} {F : Nat → Bool} (h : OwB w lo b n F) (hi : i < n) (x : Bool) : OwB (w.setCell ⟨b, i, none⟩ (.bool x)) lo b n (setT F i x) := by
  have := (h.stored i (.bool x)).1
  rw [bls_set x hi] at this
  exact this

theorem madeB (n : Nat) : (madeCells #[.bool false] (n * 1)).toList = bls (fun _ => false) n := by
  apply List.ext_getElem?
  intro i
  rcases Nat.lt_or_ge i n with hi | hi
  · rw [bls_get hi]
    simp [madeCells, hi, Nat.mod_one]
  · rw [List.getElem?_eq_none (by simp [madeCells]; omega), List.getElem?_eq_none (by rw [bls_len]; exact hi)]

theorem info_bl : (Try.prog.info? 4).map (fun i => (i.zero, i.size, i.bytes)) = some (some (.bool false), 1, 1) := by kernel_rfl

/-- only what is not stuck is seen -/
def Snd (c : Cr) (F : Nat → Bool) : Prop := ∀ i, i < c.hs.length → F i = true → fdB c i = true
/-- what is seen in fewer than r rounds -/
def Cmp (c : Cr) (F : Nat → Bool) (r : Nat) : Prop := ∀ i q, i < c.hs.length → q + 1 ≤ r → fdN c q i = true → F i = true
/-- .. of the first i senders, one round more -/
def Cmi (c : Cr) (F : Nat → Bool) (r i : Nat) : Prop := ∀ j, j < i → j < c.hs.length → fdN c r j = true → F j = true
/-- sender i, as far as the first k show -/
def Cmk (c : Cr) (F : Nat → Bool) (r i k : Nat) : Prop := ((c.h i).2 < 0 → F i = true) ∧ ∀ q u, q < k → q < c.hs.length → u + 1 ≤ r → fdN c u q = true → hasB (c.h q).1 (c.h i).2 = true → F i = true
section
variable {c : Cr} {F : Nat → Bool} {r i k : Nat} {b : Bool}

theorem setT_ge (h : F i = true → b = true) (j : Nat) (hj : F j = true) : setT F i b j = true := by
  unfold setT
  split
  · rename_i e; subst e; exact h hj
  · exact hj

theorem Cmp.up (h : Cmp c F r) (hb : F i = true → b = true) : Cmp c (setT F i b) r := fun j q h1 h2 h3 => setT_ge hb j (h j q h1 h2 h3)

theorem Cmi.up (h : Cmi c F r k) (hb : F i = true → b = true) : Cmi c (setT F i b) r k := fun j h1 h2 h3 => setT_ge hb j (h j h1 h2 h3)

theorem Snd.up (h : Snd c F) (hb : b = true → i < c.hs.length → fdB c i = true) : Snd c (setT F i b) := fun j hj h1 => by
  unfold setT at h1
  split at h1
  · rename_i e; subst e; exact hb h1 hj
  · exact h j hj h1

theorem setT_same : setT F i b i = b := by simp [setT]

theorem Cmk.zero (hb : (c.h i).2 < 0 → b = true) : Cmk c (setT F i b) r i 0 := ⟨fun h => by rw [setT_same]; exact hb h, fun q u h => by omega⟩

theorem Cmk.next (h : Cmk c F r i k) (hc : Cmp c F r) (hb : F i = true → b = true) (hk : F k = true → hasB (c.h k).1 (c.h i).2 = true → b = true) : Cmk c (setT F i b) r i (k + 1) :=
  ⟨fun h1 => by rw [setT_same]; exact hb (h.1 h1), fun q u h1 h2 h3 h4 h5 => by
    rw [setT_same]
    by_cases e : q = k
    · subst e
      exact hk (hc q u h2 h3 h4) h5
    · exact hb (h.2 q u (by omega) h2 h3 h4 h5)⟩

theorem Cmi.next (h : Cmi c F r i) (hc : Cmp c F r) (hk : Cmk c F r i c.hs.length) : Cmi c F r (i + 1) := fun j h1 h2 h3 => by
  by_cases e : j = i
  · subst e
    cases r with
    | zero =>
      have : (c.h j).2 < 0 := by
        unfold fdN at h3
        rw [Bool.and_eq_true, decide_eq_true_iff, decide_eq_true_iff] at h3
        exact h3.2
      exact hk.1 this
    | succ r =>
      unfold fdN at h3
      rw [Bool.or_eq_true, Bool.and_eq_true, List.any_eq_true] at h3
      rcases h3 with h3 | ⟨_, q, hq, h4⟩
      · exact hc j r h2 (by omega) h3
      · rw [Bool.and_eq_true] at h4
        exact hk.2 q r (List.mem_range.1 hq) (List.mem_range.1 hq) (by omega) h4.1 h4.2
  · exact h j (by omega) h2 h3

theorem Cmp.next (hc : Cmp c F r) (h : Cmi c F r c.hs.length) : Cmp c F (r + 1) := fun j q h1 h2 h3 => by
  rcases Nat.lt_or_ge q r with hq | hq
  · exact hc j q h1 (by omega) h3
  · have : q = r := by omega
    subst this
    exact h j h1 h1 h3

theorem Cmp.all (hs : Snd c F) (hc : Cmp c F (c.hs.length + 1)) : ∀ i, i < c.hs.length → F i = fdB c i := fun i hi => by
  cases e : F i with
  | true => exact (hs i hi e).symm
  | false =>
    cases e2 : fdB c i with
    | false => rfl
    | true => rw [hc i c.hs.length hi (Nat.le_refl _) e2] at e; cases e
end
/-- the way out of a loop behind a letter -/
theorem wp_open_two {P : Program} {cd : Code} {J K : Act → World → Prop} {n m : Nat} {Q2 : Exit → Act → World → Prop} {a : Act} {w : World}
    (h : ∀ Q' : Exit → Act → World → Prop, (∀ a w, K a w → Q' (.exit n) a w) → cd.wp P (Exit.then J Q') a w) : cd.wp P (Exit.then J (Exit.inBlock n (Exit.inBlock m (Exit.then K Q2)))) a w :=
  h _ (fun _ _ q => by simpa [Exit.then, Exit.inBlock] using q)
/-- an operation of a region that its guard leaves out -/
theorem still_skip {P : Program} {ops : Array Oper} {w : World} {Q : Act → Prop} {a : Act} {o : Oper} {rest : List Oper}
    (h : Region.wanted o (yielded ops a.tmps) = false) (k : wpStill P ops w Q rest (a.put o.dst undef)) : wpStill P ops w Q (o :: rest) a := by
  unfold wpStill
  rw [if_neg (by rw [h]; decide)]
  exact k
/-- a drawn region behind a letter: not unfolded by the elaborator -/
@[irreducible] def StillR (P : Program) (ops : Array Oper) (w : World) (Q : Act → Prop) (l : List Oper) (a : Act) : Prop := wpStill P ops w Q l a
theorem StillR.of {P : Program} {ops : Array Oper} {w : World} {Q : Act → Prop} {l : List Oper} {a : Act} (h : StillR P ops w Q l a) : wpStill P ops w Q l a := by
  unfold StillR at h; exact h

theorem StillR.nil {P : Program} {ops : Array Oper} {w : World} {Q : Act → Prop} {a : Act} (h : Q a) : StillR P ops w Q [] a := by
  unfold StillR; exact h

theorem StillR.skip {P : Program} {ops : Array Oper} {w : World} {Q : Act → Prop} {a : Act} {o : Oper} {rest : List Oper}
    (h : Region.wanted o (yielded ops a.tmps) = false) (k : StillR P ops w Q rest (a.put o.dst undef)) : StillR P ops w Q (o :: rest) a := by
  unfold StillR at k ⊢
  exact still_skip h k

theorem StillR.step {P : Program} {ops : Array Oper} {w : World} {Q : Act → Prop} {a : Act} {o : Oper} {rest : List Oper}
    (h : ∀ K : Act → Prop, (∀ a, StillR P ops w Q rest a → K a) → if Region.wanted o (yielded ops a.tmps) then o.still P a w K else K (a.put o.dst undef)) : StillR P ops w Q (o :: rest) a := by
  unfold StillR at h ⊢
  exact wpStill_step h

theorem stu_take {c : Cr} {k : Nat} : ((List.range (k + 1)).filter fun i => !fdB c i).map (fun (i : Nat) => (i : Int)) = ((List.range k).filter fun i => !fdB c i).map (fun (i : Nat) => (i : Int)) ++ (if fdB c k then [] else [(k : Int)]) := by
  rw [List.range_succ, List.filter_append, List.map_append]
  congr 1
  cases h : fdB c k <;> simp [h]
end Go.Proofs.Ytfcoobebebdniaa
