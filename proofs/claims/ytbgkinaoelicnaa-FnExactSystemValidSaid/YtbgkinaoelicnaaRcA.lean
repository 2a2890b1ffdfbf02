/-
  Plain mathematics of a system of groups: what is valid, and what the program looks at instead. No program, no condition.
-/
import Derived.Test.YtbgkinaoelicnaaMgE
namespace Go.Proofs.Ytbgkinaoelicnaa

/-- the entries of a message agree, as the model asks -/
def PrOk (a b : En × Bool) : Prop := b.2 = true → (b.1.2.2 = true → b.1.2.1 = a.1.2.1) ∧ (b.1.2.2 = false → ltS a.1.2.1 b.1.2.1 = false)

def MsgOk (gs : List Gp) (m : Int) : Prop := ∀ a ∈ gs, (stA a m).2 = true → (stA a m).1.2.2 = true → ∀ b ∈ gs, PrOk (stA a m) (stA b m)
/-- a valid system -/
def Sys (gs : List Gp) : Prop := gs.length = 5 ∧ (∀ (i : Nat) g, gs[i]? = some g → Vd g ∧ g.id = (i : Int)) ∧ ∀ m : Int, 0 ≤ m → m ≤ 11 → MsgOk gs m

/-- what the program looks at: the final stamps, and the greatest of all -/
def finS (gs : List Gp) (m : Int) : List St := ((gs.map fun g => (stA g m).1).filter fun e => e.2.2).map fun e => e.2.1

def grtS (gs : List Gp) (m : Int) : St := mxL (0, 0) (gs.map fun g => (stA g m).1.2.1)

theorem finS_snoc (gs : List Gp) (g : Gp) (m : Int) : finS (gs ++ [g]) m = finS gs m ++ (if (stA g m).1.2.2 then [(stA g m).1.2.1] else []) := by
  unfold finS
  rw [List.map_append, List.filter_append, List.map_append]
  congr 1
  cases h : (stA g m).1.2.2 <;> simp [h]

theorem grtS_snoc (gs : List Gp) (g : Gp) (m : Int) : grtS (gs ++ [g]) m = mxS (grtS gs m) (stA g m).1.2.1 := by
  unfold grtS
  rw [List.map_append]; exact mxL_snoc _ _ _

theorem finS_len (gs : List Gp) (m : Int) : (finS gs m).length ≤ gs.length := by
  unfold finS
  rw [List.length_map]
  refine Nat.le_trans (List.length_filter_le _ _) ?_
  rw [List.length_map]; exact Nat.le_refl _

theorem mem_finS {gs : List Gp} {m : Int} {s : St} : s ∈ finS gs m ↔ ∃ g ∈ gs, (stA g m).1.2.2 = true ∧ (stA g m).1.2.1 = s := by
  unfold finS
  simp only [List.mem_map, List.mem_filter]
  constructor
  · rintro ⟨e, ⟨⟨g, hg, rfl⟩, hf⟩, rfl⟩; exact ⟨g, hg, hf, rfl⟩
  · rintro ⟨g, hg, hf, rfl⟩; exact ⟨_, ⟨⟨g, hg, rfl⟩, hf⟩, rfl⟩
/-- an entry of a valid group that is not known is the zero one; one that is known has a valid stamp -/
theorem stA_form {g : Gp} (h : Vd g) (m : Int) : (stA g m = (en0, false)) ∨ ((stA g m).2 = true ∧ okS (stA g m).1.2.1 = true) := by
  rcases stA_cases (g := g) m with ⟨e, he, _, h1⟩ | ⟨_, e, he, _, h1⟩ | ⟨_, _, h1⟩
  · exact .inr ⟨by rw [h1], by rw [h1]; exact (okE_true.1 (h.ok (.inr he))).2.1⟩
  · exact .inr ⟨by rw [h1], by rw [h1]; exact (okE_true.1 (h.ok (.inl he))).2.1⟩
  · exact .inl h1

theorem zero_lt {s : St} (h : okS s = true) : ltS (0, 0) s = true ∧ ltS s (0, 0) = false := by
  have := stB_true.1 h
  refine ⟨lexB_true.2 (.inl (by show (0 : Int) < s.1; omega)), ?_⟩
  cases hh : ltS s (0, 0) with
  | false => rfl
  | true =>
    rcases lexB_true.1 hh with h2 | h2
    · have h3 : s.1 < 0 := h2
      omega
    · have h3 : s.1 = 0 := h2.1
      omega

theorem agree_iff {gs : List Gp} (hv : ∀ g ∈ gs, Vd g) (m : Int) : (∀ s ∈ finS gs m, s = grtS gs m) ↔ MsgOk gs m := by
  have hge : ∀ g ∈ gs, ltS (grtS gs m) (stA g m).1.2.1 = false := fun g hg => mxL_ge (List.mem_map.2 ⟨g, hg, rfl⟩)
  constructor
  · intro h a ha h1 h2 b hb h3
    have e := h _ (mem_finS.2 ⟨a, ha, h2, rfl⟩)
    rw [e]
    exact ⟨fun h4 => h _ (mem_finS.2 ⟨b, hb, h4, rfl⟩), fun _ => hge b hb⟩
  · intro h s hs
    obtain ⟨a, ha, h2, rfl⟩ := mem_finS.1 hs
    rcases stA_form (hv a ha) m with h1 | ⟨h1, ho⟩
    · rw [h1] at h2; cases h2
    refine ltS_tot ?_ (hge a ha)
    cases hlt : ltS (stA a m).1.2.1 (grtS gs m) with
    | false => rfl
    | true =>
      exfalso
      rcases mxL_mem (0, 0) (gs.map fun g => (stA g m).1.2.1) with e | e
      · rw [show grtS gs m = (0, 0) from e, (zero_lt ho).2] at hlt; cases hlt
      · obtain ⟨b, hb, e⟩ := List.mem_map.1 e
        have e' : (stA b m).1.2.1 = grtS gs m := e
        rcases stA_form (hv b hb) m with h3 | ⟨h3, ho3⟩
        · rw [← e', h3] at hlt
          rw [show (en0, false).1.2.1 = ((0, 0) : St) from rfl, (zero_lt ho).2] at hlt; cases hlt
        · obtain ⟨k1, k2⟩ := h a ha h1 h2 b hb h3
          rw [e'] at k1 k2
          cases hf : (stA b m).1.2.2 with
          | true => rw [k1 hf, ltS_irr] at hlt; cases hlt
          | false => rw [k2 hf] at hlt; cases hlt

/-! ### groups that lie in memory -/
structure Ge where
  id : Int
  ck : Int
  A1 : Option Go.Addr
  n1 : Nat
  c1 : Nat
  A2 : Option Go.Addr
  n2 : Nat
  c2 : Nat
  P : List En
  D : List En

def Ge.gp (g : Ge) : Gp := ⟨g.id, g.ck, g.P, g.D⟩
/-- what is left of the size that the exact laws allow -/
def szR : List Ge → Int → Int
  | [], l => l
  | g :: gs, l => if ((g.n1 + g.n2 : Nat) : Int) ≤ l then szR gs (l - (g.n1 : Int) - (g.n2 : Int)) else -1

theorem szR_le : ∀ (gs : List Ge) (l : Int), 0 ≤ l → szR gs l ≤ l
  | [], l, _ => Int.le_refl l
  | g :: gs, l, h => by
    unfold szR
    split
    · have := szR_le gs (l - (g.n1 : Int) - (g.n2 : Int)) (by omega)
      omega
    · omega

theorem szR_each : ∀ (gs : List Ge) (l : Int), 0 ≤ szR gs l → ∀ g ∈ gs, ((g.n1 + g.n2 : Nat) : Int) ≤ l
  | [], _, _, g, hg => by cases hg
  | x :: gs, l, h, g, hg => by
    unfold szR at h
    split at h
    · rename_i hle
      rcases List.mem_cons.1 hg with rfl | hg
      · exact hle
      · have := szR_each gs _ h g hg
        omega
    · omega

theorem szR_cases (gs : List Ge) (l : Int) (h : 0 ≤ l) : 0 ≤ szR gs l ∨ szR gs l = -1 := by
  induction gs generalizing l with
  | nil => exact .inl h
  | cons x gs ih =>
    unfold szR
    split
    · exact ih _ (by omega)
    · exact .inr rfl
end Go.Proofs.Ytbgkinaoelicnaa
