/-
  The program's line of those who wait, in memory. No condition.
-/
import Derived.Test.YtgeihcbiahnnaaaCeA
import Derived.Test.YtgeihcbiahnnaaaKp
namespace Go.Proofs.Ytgeihcbiahnnaaa
open Go.RowKit
set_option linter.unusedVariables false
set_option linter.unusedSimpArgs false

/-- one that waits: its block, the sender, the group -/
structure Wn where
  b : Nat
  s : Int
  g : Int

def nxP (ns : List Wn) (i : Nat) : Option Addr := (ns[i]?).map fun x => ⟨x.b, 0, none⟩

theorem nxP_some {ns : List Wn} {i : Nat} {x : Wn} (h : ns[i]? = some x) : nxP ns i = some ⟨x.b, 0, none⟩ := by simp [nxP, h]

theorem nxP_none {ns : List Wn} {i : Nat} (h : ns.length ≤ i) : nxP ns i = none := by simp [nxP, List.getElem?_eq_none h]
/-- the cells of one that waits -/
abbrev wnC (s g : Int) (p : Option Addr) : Array Value := #[.int .i64 s, .int .i64 g, .pointer p]
/-- a line in memory: each one points at the next -/
structure Ln (w : World) (lo : Nat) (ns : List Wn) : Prop where
  nd : ∀ (i : Nat) (x : Wn), ns[i]? = some x → Cs w x.b 66 (wnC x.s x.g (nxP ns (i + 1)))
  asc : ∀ (i j : Nat) (x y : Wn), i < j → ns[i]? = some x → ns[j]? = some y → x.b < y.b
  lo : ∀ (i : Nat) (x : Wn), ns[i]? = some x → lo ≤ x.b
/-- the blocks of a line -/
def LnS (ns : List Wn) : Nat → Prop := fun b => ∃ (i : Nat) (x : Wn), ns[i]? = some x ∧ b = x.b
section
variable {w w' : World} {lo : Nat} {ns : List Wn}

theorem Ln.inj (h : Ln w lo ns) {i j : Nat} {x y : Wn} (hi : ns[i]? = some x) (hj : ns[j]? = some y) (e : x.b = y.b) : i = j := by
  rcases Nat.lt_trichotomy i j with h1 | h1 | h1
  · have := h.asc i j x y h1 hi hj; omega
  · exact h1
  · have := h.asc j i y x h1 hj hi; omega

theorem Ln.keep (h : Ln w lo ns) (hk : ∀ (i : Nat) (x : Wn), ns[i]? = some x → w'.heap[x.b]? = w.heap[x.b]?) : Ln w' lo ns :=
  ⟨fun i x hx => (hk i x hx).trans (h.nd i x hx), h.asc, h.lo⟩

theorem Ln.lt (h : Ln w lo ns) {i : Nat} {x : Wn} (hx : ns[i]? = some x) : x.b < w.heap.size := (h.nd i x hx).lt

theorem Ln.step (h : Ln w lo ns) (hb : Below w.heap.size w w') : Ln w' lo ns := h.keep fun i x hx => hb.block _ (h.lt hx)

theorem Ln.stepB {B : Nat} (h : Ln w lo ns) (hb : Below B w w') (hB : ∀ (i : Nat) (x : Wn), ns[i]? = some x → x.b < B) : Ln w' lo ns := h.keep fun i x hx => hb.block _ (hB i x hx)

theorem Ln.kp {S : Nat → Prop} (h : Ln w lo ns) (hk : Kp S w w') (hS : ∀ (i : Nat) (x : Wn), ns[i]? = some x → ¬ S x.b) : Ln w' lo ns := h.keep fun i x hx => hk.block _ (h.lt hx) (hS i x hx)

theorem Ln.quiet (h : Ln w lo ns) (hq : Qt w w') : Ln w' lo ns := by
  obtain ⟨q, rfl⟩ := hq; exact ⟨h.nd, h.asc, h.lo⟩

theorem Ln.more {lo' : Nat} (h : Ln w lo ns) (hl : lo' ≤ lo) : Ln w lo' ns := ⟨h.nd, h.asc, fun i x hx => Nat.le_trans hl (h.lo i x hx)⟩

theorem Ln.cells (h : Ln w lo ns) {i : Nat} {x : Wn} (hx : ns[i]? = some x) :
    w.cell? ⟨x.b, 0, none⟩ = some (.int .i64 x.s) ∧ w.cell? ⟨x.b, 1, none⟩ = some (.int .i64 x.g) ∧ w.cell? ⟨x.b, 2, none⟩ = some (.pointer (nxP ns (i + 1))) ∧ w.frozen? ⟨x.b, 2, none⟩ = false := by
  have c := h.nd i x hx
  exact ⟨c.cell 0, c.cell 1, c.cell 2, c.frozen 2⟩

theorem Ln.apart (h : Ln w lo ns) {b : Nat} {T : TypeId} {cs : Array Value} (k : Cs w b T cs) (hT : T ≠ 66) : ¬ LnS ns b := by
  rintro ⟨i, x, hx, rfl⟩
  have h2 := h.nd i x hx
  unfold Cs at k h2
  rw [k] at h2
  injection h2 with h2
  injection h2 with _ h2
  exact hT h2
/-- a line of one that points at nothing -/
theorem Ln.one (w : World) (lo : Nat) (hlo : lo ≤ w.heap.size) : Ln (w.alloc (.cells (wnC 0 0 none) 66)) lo [⟨w.heap.size, 0, 0⟩] := by
  have h1 : ∀ (i : Nat) (x : Wn), [(⟨w.heap.size, 0, 0⟩ : Wn)][i]? = some x → i = 0 ∧ x = ⟨w.heap.size, 0, 0⟩ := fun i x hx => by
    have := (List.getElem?_eq_some_iff.1 hx).1
    simp at this
    subst this
    simp at hx
    exact ⟨rfl, hx.symm⟩
  refine ⟨fun i x hx => ?_, fun i j x y hij hx hy => ?_, fun i x hx => ?_⟩
  · obtain ⟨rfl, rfl⟩ := h1 i x hx
    exact Cs.new w _ _
  · obtain ⟨rfl, rfl⟩ := h1 i x hx
    obtain ⟨rfl, rfl⟩ := h1 j y hy
    omega
  · obtain ⟨rfl, rfl⟩ := h1 i x hx
    exact hlo
/-- the last one points at a new one -/
theorem Ln.app (h : Ln w lo ns) {k : Nat} {x : Wn} (hk : ns.length = k + 1) (hx : ns[k]? = some x) (s g : Int) (hlo : lo ≤ w.heap.size) :
    Ln ((w.alloc (.cells (wnC s g none) 66)).setCell ⟨x.b, 2, none⟩ (.pointer (some ⟨w.heap.size, 0, none⟩))) lo (ns ++ [⟨w.heap.size, s, g⟩]) := by
  have hxl := h.lt hx
  have hold : ∀ {i : Nat}, i < ns.length → (ns ++ [(⟨w.heap.size, s, g⟩ : Wn)])[i]? = ns[i]? := fun hi => List.getElem?_append_left hi
  have hnew : (ns ++ [(⟨w.heap.size, s, g⟩ : Wn)])[ns.length]? = some ⟨w.heap.size, s, g⟩ := by rw [List.getElem?_append_right (Nat.le_refl _)]; simp
  have hcase : ∀ {i : Nat} {y : Wn}, (ns ++ [(⟨w.heap.size, s, g⟩ : Wn)])[i]? = some y → (i < ns.length ∧ ns[i]? = some y) ∨ (i = ns.length ∧ y = ⟨w.heap.size, s, g⟩) := fun {i y} hy => by
    rcases Nat.lt_or_ge i ns.length with hl | hl
    · rw [hold hl] at hy; exact .inl ⟨hl, hy⟩
    · have h2 := (List.getElem?_eq_some_iff.1 hy).1
      simp at h2
      have : i = ns.length := by omega
      subst this
      rw [hnew] at hy
      injection hy with hy
      exact .inr ⟨rfl, hy.symm⟩
  refine ⟨fun i y hy => ?_, fun i j y z hij hy hz => ?_, fun i y hy => ?_⟩
  · rcases hcase hy with ⟨hl, hy⟩ | ⟨rfl, rfl⟩
    · by_cases e : i = k
      · subst e
        rw [hx] at hy
        injection hy with hy
        subst hy
        rw [nxP_some (by rw [show i + 1 = ns.length by omega]; exact hnew)]
        exact ((h.nd i x hx).alloc _).set 2 _
      · have : nxP (ns ++ [(⟨w.heap.size, s, g⟩ : Wn)]) (i + 1) = nxP ns (i + 1) := by unfold nxP; rw [hold (by omega)]
        rw [this]
        exact ((h.nd i y hy).alloc _).far (p := ⟨x.b, 2, none⟩) (fun e2 => e (h.inj hy hx e2)) _
    · rw [nxP_none (by simp)]
      exact (Cs.new w _ _).far (p := ⟨x.b, 2, none⟩) (fun e2 => by have e2 : w.heap.size = x.b := e2; omega) _
  · rcases hcase hy with ⟨hl, hy⟩ | ⟨rfl, rfl⟩
    · rcases hcase hz with ⟨hl2, hz⟩ | ⟨rfl, rfl⟩
      · exact h.asc i j y z hij hy hz
      · exact h.lt hy
    · rcases hcase hz with ⟨hl2, hz⟩ | ⟨rfl, rfl⟩ <;> omega
  · rcases hcase hy with ⟨hl, hy⟩ | ⟨rfl, rfl⟩
    · exact h.lo i y hy
    · exact hlo

theorem erase_low {i k : Nat} (h : i < k) : (ns.eraseIdx k)[i]? = ns[i]? := by rw [List.getElem?_eraseIdx]; simp [h]

theorem erase_high {i k : Nat} (h : k ≤ i) : (ns.eraseIdx k)[i]? = ns[i + 1]? := by rw [List.getElem?_eraseIdx]; simp; omega
/-- the one behind place k taken out -/
theorem Ln.cut (h : Ln w lo ns) {k : Nat} {x : Wn} (hx : ns[k]? = some x) {u : Value} (hu : Value.pointer (nxP ns (k + 2)) = u) : Ln (w.setCell ⟨x.b, 2, none⟩ u) lo (ns.eraseIdx (k + 1)) := by
  refine ⟨fun i y hy => ?_, fun i j y z hij hy hz => ?_, fun i y hy => ?_⟩
  · rcases Nat.lt_or_ge i (k + 1) with hl | hl
    · rw [erase_low hl] at hy
      by_cases e : i = k
      · subst e
        rw [hx] at hy
        injection hy with hy
        subst hy
        have : nxP (ns.eraseIdx (i + 1)) (i + 1) = nxP ns (i + 2) := by unfold nxP; rw [erase_high (Nat.le_refl _)]
        rw [this, ← hu]
        rw [← hu] at *
        exact (h.nd i x hx).set 2 _
      · have : nxP (ns.eraseIdx (k + 1)) (i + 1) = nxP ns (i + 1) := by unfold nxP; rw [erase_low (by omega)]
        rw [this]
        exact (h.nd i y hy).far (p := ⟨x.b, 2, none⟩) (fun e2 => e (h.inj hy hx e2)) _
    · rw [erase_high hl] at hy
      have : nxP (ns.eraseIdx (k + 1)) (i + 1) = nxP ns (i + 1 + 1) := by unfold nxP; rw [erase_high (by omega)]
      rw [this]
      exact (h.nd _ y hy).far (p := ⟨x.b, 2, none⟩) (fun e2 => by have := h.inj hy hx e2; omega) _
  · rcases Nat.lt_or_ge i (k + 1) with hl | hl
    · rw [erase_low hl] at hy
      rcases Nat.lt_or_ge j (k + 1) with hl2 | hl2
      · rw [erase_low hl2] at hz; exact h.asc i j y z hij hy hz
      · rw [erase_high hl2] at hz; exact h.asc i (j + 1) y z (by omega) hy hz
    · rw [erase_high hl] at hy
      rw [erase_high (by omega)] at hz
      exact h.asc _ _ y z (by omega) hy hz
  · rcases Nat.lt_or_ge i (k + 1) with hl | hl
    · rw [erase_low hl] at hy; exact h.lo _ y hy
    · rw [erase_high hl] at hy; exact h.lo _ y hy
end
/-- those in a line, behind the first -/
def inL (ns : List Wn) : List (Int × Int) := (ns.drop 1).map fun x => (x.s, x.g)

theorem inL_get {ns : List Wn} {k : Nat} : (inL ns)[k]? = (ns[k + 1]?).map fun x => (x.s, x.g) := by
  unfold inL
  rw [List.getElem?_map, List.getElem?_drop, Nat.add_comm 1 k]

theorem inL_erase {ns : List Wn} {k : Nat} : inL (ns.eraseIdx (k + 1)) = (inL ns).eraseIdx k := by
  apply List.ext_getElem?
  intro i
  rw [inL_get, List.getElem?_eraseIdx, List.getElem?_eraseIdx]
  by_cases h : i < k
  · rw [if_pos (by omega), if_pos h, inL_get]
  · rw [if_neg (by omega), if_neg h, inL_get]

theorem inL_app {ns : List Wn} {x : Wn} (h : 0 < ns.length) : inL (ns ++ [x]) = inL ns ++ [(x.s, x.g)] := by
  unfold inL
  rw [List.drop_append_of_le_length (by omega), List.map_append]; rfl

theorem inL_len {ns : List Wn} : (inL ns).length = ns.length - 1 := by simp [inL]
end Go.Proofs.Ytgeihcbiahnnaaa
