/-
  The program's linked messages in memory: an array of pointers, a message with those before it and those after it, the graph of all of them. No condition.
-/
import Derived.Test.YtdhafappclcijaaTrB
import Derived.Test.YtdhafappclcijaaKp
namespace Go.Proofs.Ytdhafappclcijaa
open Go.RowKit
set_option linter.unusedVariables false
set_option linter.unusedSimpArgs false

/-- the pointer at place k of a set S of messages, message k lying in block P k -/
def pO (P : Nat → Nat) (S : Nat → Bool) (k : Nat) : Option Addr := if S k then some ⟨P k, 0, none⟩ else none

theorem pO_true {P : Nat → Nat} {S : Nat → Bool} {k : Nat} (h : S k = true) : pO P S k = some ⟨P k, 0, none⟩ := by simp [pO, h]

theorem pO_false {P : Nat → Nat} {S : Nat → Bool} {k : Nat} (h : S k = false) : pO P S k = none := by simp [pO, h]

abbrev pV (P : Nat → Nat) (S : Nat → Bool) (k : Nat) : Value := .pointer (pO P S k)
/-- the cells of an array of links -/
abbrev lkC (P : Nat → Nat) (S : Nat → Bool) : Array Value := #[pV P S 0, pV P S 1, pV P S 2, pV P S 3, pV P S 4, pV P S 5, pV P S 6, pV P S 7, pV P S 8, pV P S 9, pV P S 10, pV P S 11]
/-- the cells of a message -/
abbrev ndC (P : Nat → Nat) (k : Nat) (bf af : Nat → Bool) : Array Value :=
  #[.int .i64 k, pV P bf 0, pV P bf 1, pV P bf 2, pV P bf 3, pV P bf 4, pV P bf 5, pV P bf 6, pV P bf 7, pV P bf 8, pV P bf 9, pV P bf 10, pV P bf 11,
    pV P af 0, pV P af 1, pV P af 2, pV P af 3, pV P af 4, pV P af 5, pV P af 6, pV P af 7, pV P af 8, pV P af 9, pV P af 10, pV P af 11]

def upB (S : Nat → Bool) (k : Nat) (v : Bool) : Nat → Bool := fun j => if j = k then v else S j

def up2 (S : Nat → Nat → Bool) (k j : Nat) (v : Bool) : Nat → Nat → Bool := fun a b => if a = k ∧ b = j then v else S a b

def noB : Nat → Bool := fun _ => false

theorem twelve {k : Nat} (h : k < 12) : k = 0 ∨ k = 1 ∨ k = 2 ∨ k = 3 ∨ k = 4 ∨ k = 5 ∨ k = 6 ∨ k = 7 ∨ k = 8 ∨ k = 9 ∨ k = 10 ∨ k = 11 := by omega

theorem pO_congr {P P' : Nat → Nat} {S S' : Nat → Bool} {k : Nat} (hS : S k = S' k) (hP : S k = true → P k = P' k) : pO P S k = pO P' S' k := by
  unfold pO
  rw [← hS]
  cases h : S k with
  | true => simp [hP h]
  | false => rfl

theorem lkC_congr {P P' : Nat → Nat} {S S' : Nat → Bool} (hS : ∀ k, k < 12 → S k = S' k) (hP : ∀ k, k < 12 → S k = true → P k = P' k) : lkC P S = lkC P' S' := by
  have h : ∀ k, k < 12 → pO P S k = pO P' S' k := fun k hk => pO_congr (hS k hk) (hP k hk)
  simp only [lkC, pV, h 0 (by omega), h 1 (by omega), h 2 (by omega), h 3 (by omega), h 4 (by omega), h 5 (by omega), h 6 (by omega), h 7 (by omega), h 8 (by omega), h 9 (by omega), h 10 (by omega), h 11 (by omega)]

theorem ndC_congr {P P' : Nat → Nat} {i : Nat} {b b' a a' : Nat → Bool} (hb : ∀ k, k < 12 → pO P b k = pO P' b' k) (ha : ∀ k, k < 12 → pO P a k = pO P' a' k) : ndC P i b a = ndC P' i b' a' := by
  simp only [ndC, pV, hb 0 (by omega), hb 1 (by omega), hb 2 (by omega), hb 3 (by omega), hb 4 (by omega), hb 5 (by omega), hb 6 (by omega), hb 7 (by omega), hb 8 (by omega), hb 9 (by omega), hb 10 (by omega), hb 11 (by omega),
    ha 0 (by omega), ha 1 (by omega), ha 2 (by omega), ha 3 (by omega), ha 4 (by omega), ha 5 (by omega), ha 6 (by omega), ha 7 (by omega), ha 8 (by omega), ha 9 (by omega), ha 10 (by omega), ha 11 (by omega)]

theorem lkC_get {P : Nat → Nat} {S : Nat → Bool} {k : Nat} (hk : k < 12) : (lkC P S)[k]? = some (pV P S k) := by
  rcases twelve hk with rfl | rfl | rfl | rfl | rfl | rfl | rfl | rfl | rfl | rfl | rfl | rfl <;> rfl

theorem ndC_b {P : Nat → Nat} {i : Nat} {b a : Nat → Bool} {k : Nat} (hk : k < 12) : (ndC P i b a)[1 + k]? = some (pV P b k) := by
  rcases twelve hk with rfl | rfl | rfl | rfl | rfl | rfl | rfl | rfl | rfl | rfl | rfl | rfl <;> rfl

theorem ndC_a {P : Nat → Nat} {i : Nat} {b a : Nat → Bool} {k : Nat} (hk : k < 12) : (ndC P i b a)[13 + k]? = some (pV P a k) := by
  rcases twelve hk with rfl | rfl | rfl | rfl | rfl | rfl | rfl | rfl | rfl | rfl | rfl | rfl <;> rfl

theorem up_same {S : Nat → Bool} {k : Nat} {v : Bool} : upB S k v k = v := by simp [upB]

theorem up_other {S : Nat → Bool} {k j : Nat} {v : Bool} (h : j ≠ k) : upB S k v j = S j := by simp [upB, h]

theorem pO_up {P : Nat → Nat} {S : Nat → Bool} {k j : Nat} {v : Bool} (h : j ≠ k) : pO P (upB S k v) j = pO P S j := by simp [pO, up_other h]

theorem lkC_set {P : Nat → Nat} {S : Nat → Bool} {k : Nat} (hk : k < 12) (v : Bool) {u : Value} (hu : pV P (upB S k v) k = u) : (lkC P S).setIfInBounds k u = lkC P (upB S k v) := by
  have ho : ∀ j, j ≠ k → pO P S j = pO P (upB S k v) j := fun j hj => (pO_up hj).symm
  subst hu
  rcases twelve hk with rfl | rfl | rfl | rfl | rfl | rfl | rfl | rfl | rfl | rfl | rfl | rfl <;>
    simp [lkC, pV, ho]

theorem ndC_setB {P : Nat → Nat} {i : Nat} {b a : Nat → Bool} {k : Nat} (hk : k < 12) (v : Bool) {u : Value} (hu : pV P (upB b k v) k = u) : (ndC P i b a).setIfInBounds (1 + k) u = ndC P i (upB b k v) a := by
  have ho : ∀ j, j ≠ k → pO P b j = pO P (upB b k v) j := fun j hj => (pO_up hj).symm
  subst hu
  rcases twelve hk with rfl | rfl | rfl | rfl | rfl | rfl | rfl | rfl | rfl | rfl | rfl | rfl <;>
    simp [ndC, pV, ho]

theorem ndC_setA {P : Nat → Nat} {i : Nat} {b a : Nat → Bool} {k : Nat} (hk : k < 12) (v : Bool) {u : Value} (hu : pV P (upB a k v) k = u) : (ndC P i b a).setIfInBounds (13 + k) u = ndC P i b (upB a k v) := by
  have ho : ∀ j, j ≠ k → pO P a j = pO P (upB a k v) j := fun j hj => (pO_up hj).symm
  subst hu
  rcases twelve hk with rfl | rfl | rfl | rfl | rfl | rfl | rfl | rfl | rfl | rfl | rfl | rfl <;>
    simp [ndC, pV, ho]

/-- the graph: every message k of D lies in block P k, with those before it and those after it; all blocks are lo or later -/
structure Gr (w : World) (lo : Nat) (P : Nat → Nat) (D : Nat → Bool) (bf af : Nat → Nat → Bool) : Prop where
  nd : ∀ k, k < 12 → D k = true → Cs w (P k) 46 (ndC P k (bf k) (af k))
  lo : ∀ k, k < 12 → D k = true → lo ≤ P k
  bD : ∀ k j, k < 12 → j < 12 → bf k j = true → D k = true ∧ D j = true
  aD : ∀ k j, k < 12 → j < 12 → af k j = true → D k = true ∧ D j = true
/-- the blocks of a graph -/
def GrS (P : Nat → Nat) (D : Nat → Bool) : Nat → Prop := fun b => ∃ k, k < 12 ∧ D k = true ∧ b = P k
section
variable {w w' : World} {lo : Nat} {P : Nat → Nat} {D : Nat → Bool} {bf af : Nat → Nat → Bool}

theorem Gr.inj (h : Gr w lo P D bf af) {j k : Nat} (hj : j < 12) (hk : k < 12) (dj : D j = true) (dk : D k = true) (e : P j = P k) : j = k := by
  have h1 := h.nd j hj dj
  have h2 := h.nd k hk dk
  rw [e] at h1
  unfold Cs at h1 h2
  rw [h1] at h2
  injection h2 with h2
  injection h2 with h2
  have := congrArg (fun (x : Array Value) => x[0]?) h2
  simp at this
  omega

theorem Gr.keep (h : Gr w lo P D bf af) (hk : ∀ k, k < 12 → D k = true → w'.heap[P k]? = w.heap[P k]?) : Gr w' lo P D bf af :=
  ⟨fun k h1 h2 => (hk k h1 h2).trans (h.nd k h1 h2), h.lo, h.bD, h.aD⟩

theorem Gr.lt (h : Gr w lo P D bf af) {k : Nat} (hk : k < 12) (dk : D k = true) : P k < w.heap.size := (h.nd k hk dk).lt

theorem Gr.step (h : Gr w lo P D bf af) (hb : Below w.heap.size w w') : Gr w' lo P D bf af := h.keep fun k h1 h2 => hb.block _ (h.lt h1 h2)

theorem Gr.kp {S : Nat → Prop} (h : Gr w lo P D bf af) (hk : Kp S w w') (hS : ∀ k, k < 12 → D k = true → ¬ S (P k)) : Gr w' lo P D bf af := h.keep fun k h1 h2 => hk.block _ (h.lt h1 h2) (hS k h1 h2)

theorem Gr.drew (h : Gr w lo P D bf af) : Gr w.drew lo P D bf af := ⟨h.nd, h.lo, h.bD, h.aD⟩

theorem Gr.more {lo' : Nat} (h : Gr w lo P D bf af) (hl : lo' ≤ lo) : Gr w lo' P D bf af := ⟨h.nd, fun k h1 h2 => Nat.le_trans hl (h.lo k h1 h2), h.bD, h.aD⟩

theorem Gr.base (h : Gr w lo P D bf af) (hk : Kp (GrS P D) w w') (hlo : lo ≤ w.heap.size) : Below lo w w' := hk.base hlo (by rintro b ⟨k, h1, h2, rfl⟩; exact h.lo k h1 h2)

theorem Gr.nil (w : World) (lo : Nat) (P : Nat → Nat) : Gr w lo P noB (fun _ _ => false) (fun _ _ => false) := ⟨fun _ _ h => (by cases h), fun _ _ h => (by cases h), fun _ _ _ _ h => (by cases h), fun _ _ _ _ h => (by cases h)⟩

theorem Gr.alloc (h : Gr w lo P D bf af) (o : Obj) : Gr (w.alloc o) lo P D bf af := h.step (below1 w o)

theorem Gr.congr (h : Gr w lo P D bf af) {bf' af' : Nat → Nat → Bool} (hb : ∀ k j, k < 12 → j < 12 → bf k j = bf' k j) (ha : ∀ k j, k < 12 → j < 12 → af k j = af' k j) : Gr w lo P D bf' af' := by
  refine ⟨fun k h1 h2 => ?_, h.lo, fun k j h1 h2 h3 => h.bD k j h1 h2 (by rw [hb k j h1 h2]; exact h3), fun k j h1 h2 h3 => h.aD k j h1 h2 (by rw [ha k j h1 h2]; exact h3)⟩
  rw [← ndC_congr (fun j hj => pO_congr (hb k j h1 hj) (fun _ => rfl)) (fun j hj => pO_congr (ha k j h1 hj) (fun _ => rfl))]
  exact h.nd k h1 h2

theorem Gr.congrD (h : Gr w lo P D bf af) {D' : Nat → Bool} (hD : ∀ k, k < 12 → D k = D' k) : Gr w lo P D' bf af :=
  ⟨fun k h1 h2 => h.nd k h1 (by rw [hD k h1]; exact h2), fun k h1 h2 => h.lo k h1 (by rw [hD k h1]; exact h2),
    fun k j h1 h2 h3 => by rw [← hD k h1, ← hD j h2]; exact h.bD k j h1 h2 h3, fun k j h1 h2 h3 => by rw [← hD k h1, ← hD j h2]; exact h.aD k j h1 h2 h3⟩
/-- a cell of before, changed -/
theorem Gr.setB (h : Gr w lo P D bf af) {k j : Nat} (hk : k < 12) (hj : j < 12) (dk : D k = true) (dj : D j = true) (v : Bool) {u : Value} (hu : Value.pointer (if v then some ⟨P j, 0, none⟩ else none) = u) :
    Gr (w.setCell ⟨P k, 1 + j, none⟩ u) lo P D (up2 bf k j v) af := by
  refine ⟨fun i h1 h2 => ?_, h.lo, fun i m h1 h2 h3 => ?_, h.aD⟩
  · by_cases e : i = k
    · subst e
      have h4 := (h.nd i h1 h2).set (1 + j) u
      rw [ndC_setB hj v (by rw [← hu]; simp [pV, pO, up_same])] at h4
      rw [show up2 bf i j v i = upB (bf i) j v from by funext b; simp [up2, upB]]
      exact h4
    · rw [show up2 bf k j v i = bf i from by funext b; simp [up2, e]]
      exact (h.nd i h1 h2).far (p := ⟨P k, 1 + j, none⟩) (fun e2 => e (h.inj h1 hk h2 dk e2)) u
  · unfold up2 at h3
    split at h3
    · rename_i e; rw [e.1, e.2]; exact ⟨dk, dj⟩
    · exact h.bD i m h1 h2 h3
/-- a cell of after, changed -/
theorem Gr.setA (h : Gr w lo P D bf af) {k j : Nat} (hk : k < 12) (hj : j < 12) (dk : D k = true) (dj : D j = true) (v : Bool) {u : Value} (hu : Value.pointer (if v then some ⟨P j, 0, none⟩ else none) = u) :
    Gr (w.setCell ⟨P k, 13 + j, none⟩ u) lo P D bf (up2 af k j v) := by
  refine ⟨fun i h1 h2 => ?_, h.lo, h.bD, fun i m h1 h2 h3 => ?_⟩
  · by_cases e : i = k
    · subst e
      have h4 := (h.nd i h1 h2).set (13 + j) u
      rw [ndC_setA hj v (by rw [← hu]; simp [pV, pO, up_same])] at h4
      rw [show up2 af i j v i = upB (af i) j v from by funext b; simp [up2, upB]]
      exact h4
    · rw [show up2 af k j v i = af i from by funext b; simp [up2, e]]
      exact (h.nd i h1 h2).far (p := ⟨P k, 13 + j, none⟩) (fun e2 => e (h.inj h1 hk h2 dk e2)) u
  · unfold up2 at h3
    split at h3
    · rename_i e; rw [e.1, e.2]; exact ⟨dk, dj⟩
    · exact h.aD i m h1 h2 h3
/-- a new message in a new block -/
theorem Gr.new (h : Gr w lo P D bf af) {k : Nat} (hk : k < 12) (dk : D k = false) (hlo : lo ≤ w.heap.size) :
    Gr (w.alloc (.cells (ndC P k noB noB) 46)) lo (fun j => if j = k then w.heap.size else P j) (upB D k true) bf af := by
  have nb : ∀ j, j < 12 → bf k j = false := fun j hj => by
    cases e : bf k j with
    | false => rfl
    | true => rw [(h.bD k j hk hj e).1] at dk; cases dk
  have na : ∀ j, j < 12 → af k j = false := fun j hj => by
    cases e : af k j with
    | false => rfl
    | true => rw [(h.aD k j hk hj e).1] at dk; cases dk
  have oldP : ∀ (S : Nat → Nat → Bool), (∀ a b, a < 12 → b < 12 → S a b = true → D a = true ∧ D b = true) → ∀ i, i < 12 → ∀ j, j < 12 → pO (fun j => if j = k then w.heap.size else P j) (S i) j = pO P (S i) j := fun S hS i hi j hj => by
    refine pO_congr rfl fun e => ?_
    have := (hS i j hi hj e).2
    have : j ≠ k := fun e2 => by subst e2; rw [dk] at this; cases this
    simp [this]
  refine ⟨fun i h1 h2 => ?_, fun i h1 h2 => ?_, fun i j h1 h2 h3 => ?_, fun i j h1 h2 h3 => ?_⟩
  · rw [ndC_congr (oldP bf h.bD i h1) (oldP af h.aD i h1)]
    by_cases e : i = k
    · subst e
      simp only [if_true]
      have he : ndC P i (bf i) (af i) = ndC P i noB noB := ndC_congr (fun j hj => by simp [pO, nb j hj, noB]) (fun j hj => by simp [pO, na j hj, noB])
      rw [he]
      exact Cs.new w _ _
    · simp only [e, if_false]
      exact (h.nd i h1 (by rw [up_other e] at h2; exact h2)).alloc _
  · by_cases e : i = k
    · simp only [e, if_true]; exact hlo
    · simp only [e, if_false]; exact h.lo i h1 (by rw [up_other e] at h2; exact h2)
  · have h4 := h.bD i j h1 h2 h3
    refine ⟨?_, ?_⟩ <;> unfold upB <;> split <;> simp [h4.1, h4.2]
  · have h4 := h.aD i j h1 h2 h3
    refine ⟨?_, ?_⟩ <;> unfold upB <;> split <;> simp [h4.1, h4.2]

theorem Gr.num (h : Gr w lo P D bf af) {k : Nat} (hk : k < 12) (dk : D k = true) : w.cell? ⟨P k, 0, none⟩ = some (.int .i64 k) := (h.nd k hk dk).cell 0

theorem Gr.bcell (h : Gr w lo P D bf af) {k j : Nat} (hk : k < 12) (dk : D k = true) (hj : j < 12) : w.cell? ⟨P k, 1 + j, none⟩ = some (pV P (bf k) j) := by rw [(h.nd k hk dk).cell]; exact ndC_b hj

theorem Gr.acell (h : Gr w lo P D bf af) {k j : Nat} (hk : k < 12) (dk : D k = true) (hj : j < 12) : w.cell? ⟨P k, 13 + j, none⟩ = some (pV P (af k) j) := by rw [(h.nd k hk dk).cell]; exact ndC_a hj

theorem Gr.free (h : Gr w lo P D bf af) {k : Nat} (hk : k < 12) (dk : D k = true) (j : Nat) : w.frozen? ⟨P k, j, none⟩ = false := (h.nd k hk dk).frozen j

theorem Gr.apart (h : Gr w lo P D bf af) {b : Nat} {T : TypeId} {cs : Array Value} (k : Cs w b T cs) (hT : T ≠ 46) : ¬ GrS P D b := by
  rintro ⟨i, hi, di, rfl⟩
  have h2 := h.nd i hi di
  unfold Cs at k h2
  rw [k] at h2
  injection h2 with h2
  injection h2 with _ h2
  exact hT h2

theorem Gr.all_b (h : Gr w lo P D bf af) {k : Nat} (hk : k < 12) (dk : D k = true) :
    w.cell? ⟨P k, 1, none⟩ = some (pV P (bf k) 0) ∧ w.cell? ⟨P k, 2, none⟩ = some (pV P (bf k) 1) ∧ w.cell? ⟨P k, 3, none⟩ = some (pV P (bf k) 2) ∧ w.cell? ⟨P k, 4, none⟩ = some (pV P (bf k) 3) ∧
    w.cell? ⟨P k, 5, none⟩ = some (pV P (bf k) 4) ∧ w.cell? ⟨P k, 6, none⟩ = some (pV P (bf k) 5) ∧ w.cell? ⟨P k, 7, none⟩ = some (pV P (bf k) 6) ∧ w.cell? ⟨P k, 8, none⟩ = some (pV P (bf k) 7) ∧
    w.cell? ⟨P k, 9, none⟩ = some (pV P (bf k) 8) ∧ w.cell? ⟨P k, 10, none⟩ = some (pV P (bf k) 9) ∧ w.cell? ⟨P k, 11, none⟩ = some (pV P (bf k) 10) ∧ w.cell? ⟨P k, 12, none⟩ = some (pV P (bf k) 11) := by
  have c := (h.nd k hk dk).cell
  exact ⟨c 1, c 2, c 3, c 4, c 5, c 6, c 7, c 8, c 9, c 10, c 11, c 12⟩

theorem Gr.all_a (h : Gr w lo P D bf af) {k : Nat} (hk : k < 12) (dk : D k = true) :
    w.cell? ⟨P k, 13, none⟩ = some (pV P (af k) 0) ∧ w.cell? ⟨P k, 14, none⟩ = some (pV P (af k) 1) ∧ w.cell? ⟨P k, 15, none⟩ = some (pV P (af k) 2) ∧ w.cell? ⟨P k, 16, none⟩ = some (pV P (af k) 3) ∧
    w.cell? ⟨P k, 17, none⟩ = some (pV P (af k) 4) ∧ w.cell? ⟨P k, 18, none⟩ = some (pV P (af k) 5) ∧ w.cell? ⟨P k, 19, none⟩ = some (pV P (af k) 6) ∧ w.cell? ⟨P k, 20, none⟩ = some (pV P (af k) 7) ∧
    w.cell? ⟨P k, 21, none⟩ = some (pV P (af k) 8) ∧ w.cell? ⟨P k, 22, none⟩ = some (pV P (af k) 9) ∧ w.cell? ⟨P k, 23, none⟩ = some (pV P (af k) 10) ∧ w.cell? ⟨P k, 24, none⟩ = some (pV P (af k) 11) := by
  have c := (h.nd k hk dk).cell
  exact ⟨c 13, c 14, c 15, c 16, c 17, c 18, c 19, c 20, c 21, c 22, c 23, c 24⟩
end
/-- an array of links in a block -/
abbrev Lk (w : World) (b : Nat) (P : Nat → Nat) (S : Nat → Bool) : Prop := Cs w b 42 (lkC P S)
section
variable {w w' : World} {b : Nat} {P : Nat → Nat} {S : Nat → Bool}

theorem Lk.at_ (h : Lk w b P S) {k : Nat} (hk : k < 12) : w.cell? ⟨b, k, none⟩ = some (pV P S k) := by rw [Cs.cell h]; exact lkC_get hk

theorem Lk.all (h : Lk w b P S) :
    w.cell? ⟨b, 0, none⟩ = some (pV P S 0) ∧ w.cell? ⟨b, 1, none⟩ = some (pV P S 1) ∧ w.cell? ⟨b, 2, none⟩ = some (pV P S 2) ∧ w.cell? ⟨b, 3, none⟩ = some (pV P S 3) ∧
    w.cell? ⟨b, 4, none⟩ = some (pV P S 4) ∧ w.cell? ⟨b, 5, none⟩ = some (pV P S 5) ∧ w.cell? ⟨b, 6, none⟩ = some (pV P S 6) ∧ w.cell? ⟨b, 7, none⟩ = some (pV P S 7) ∧
    w.cell? ⟨b, 8, none⟩ = some (pV P S 8) ∧ w.cell? ⟨b, 9, none⟩ = some (pV P S 9) ∧ w.cell? ⟨b, 10, none⟩ = some (pV P S 10) ∧ w.cell? ⟨b, 11, none⟩ = some (pV P S 11) := by
  have c := Cs.cell h
  exact ⟨c 0, c 1, c 2, c 3, c 4, c 5, c 6, c 7, c 8, c 9, c 10, c 11⟩

theorem Lk.put (h : Lk w b P S) {k : Nat} (hk : k < 12) (v : Bool) {u : Value} (hu : Value.pointer (if v then some ⟨P k, 0, none⟩ else none) = u) : Lk (w.setCell ⟨b, k, none⟩ u) b P (upB S k v) := by
  have h2 := Cs.set h k u
  rw [lkC_set hk v (by rw [← hu]; simp [pV, pO, up_same])] at h2
  exact h2

theorem Lk.congr (h : Lk w b P S) {P' : Nat → Nat} {S' : Nat → Bool} (hS : ∀ k, k < 12 → S k = S' k) (hP : ∀ k, k < 12 → S k = true → P k = P' k) : Lk w b P' S' := by
  unfold Lk; rw [← lkC_congr hS hP]; exact h

theorem Lk.zero (w : World) (P : Nat → Nat) : lkC P noB = #[.pointer none, .pointer none, .pointer none, .pointer none, .pointer none, .pointer none, .pointer none, .pointer none, .pointer none, .pointer none, .pointer none, .pointer none] := rfl
end

/-- twelve cells stored -/
theorem Cs.set12 {w : World} {b : Nat} {U : TypeId} {x0 x1 x2 x3 x4 x5 x6 x7 x8 x9 x10 x11 : Value} (h : Cs w b U #[x0, x1, x2, x3, x4, x5, x6, x7, x8, x9, x10, x11]) (u0 u1 u2 u3 u4 u5 u6 u7 u8 u9 u10 u11 : Value) : Cs ((((((((((((w.setCell ⟨b, 0, none⟩ u0).setCell ⟨b, 1, none⟩ u1).setCell ⟨b, 2, none⟩ u2).setCell ⟨b, 3, none⟩ u3).setCell ⟨b, 4, none⟩ u4).setCell ⟨b, 5, none⟩ u5).setCell ⟨b, 6, none⟩ u6).setCell ⟨b, 7, none⟩ u7).setCell ⟨b, 8, none⟩ u8).setCell ⟨b, 9, none⟩ u9).setCell ⟨b, 10, none⟩ u10).setCell ⟨b, 11, none⟩ u11) b U #[u0, u1, u2, u3, u4, u5, u6, u7, u8, u9, u10, u11] := by
  have h0 : Cs (w.setCell ⟨b, 0, none⟩ u0) b U #[u0, x1, x2, x3, x4, x5, x6, x7, x8, x9, x10, x11] := h.set 0 u0
  have h1 : Cs ((w.setCell ⟨b, 0, none⟩ u0).setCell ⟨b, 1, none⟩ u1) b U #[u0, u1, x2, x3, x4, x5, x6, x7, x8, x9, x10, x11] := h0.set 1 u1
  have h2 : Cs (((w.setCell ⟨b, 0, none⟩ u0).setCell ⟨b, 1, none⟩ u1).setCell ⟨b, 2, none⟩ u2) b U #[u0, u1, u2, x3, x4, x5, x6, x7, x8, x9, x10, x11] := h1.set 2 u2
  have h3 : Cs ((((w.setCell ⟨b, 0, none⟩ u0).setCell ⟨b, 1, none⟩ u1).setCell ⟨b, 2, none⟩ u2).setCell ⟨b, 3, none⟩ u3) b U #[u0, u1, u2, u3, x4, x5, x6, x7, x8, x9, x10, x11] := h2.set 3 u3
  have h4 : Cs (((((w.setCell ⟨b, 0, none⟩ u0).setCell ⟨b, 1, none⟩ u1).setCell ⟨b, 2, none⟩ u2).setCell ⟨b, 3, none⟩ u3).setCell ⟨b, 4, none⟩ u4) b U #[u0, u1, u2, u3, u4, x5, x6, x7, x8, x9, x10, x11] := h3.set 4 u4
  have h5 : Cs ((((((w.setCell ⟨b, 0, none⟩ u0).setCell ⟨b, 1, none⟩ u1).setCell ⟨b, 2, none⟩ u2).setCell ⟨b, 3, none⟩ u3).setCell ⟨b, 4, none⟩ u4).setCell ⟨b, 5, none⟩ u5) b U #[u0, u1, u2, u3, u4, u5, x6, x7, x8, x9, x10, x11] := h4.set 5 u5
  have h6 : Cs (((((((w.setCell ⟨b, 0, none⟩ u0).setCell ⟨b, 1, none⟩ u1).setCell ⟨b, 2, none⟩ u2).setCell ⟨b, 3, none⟩ u3).setCell ⟨b, 4, none⟩ u4).setCell ⟨b, 5, none⟩ u5).setCell ⟨b, 6, none⟩ u6) b U #[u0, u1, u2, u3, u4, u5, u6, x7, x8, x9, x10, x11] := h5.set 6 u6
  have h7 : Cs ((((((((w.setCell ⟨b, 0, none⟩ u0).setCell ⟨b, 1, none⟩ u1).setCell ⟨b, 2, none⟩ u2).setCell ⟨b, 3, none⟩ u3).setCell ⟨b, 4, none⟩ u4).setCell ⟨b, 5, none⟩ u5).setCell ⟨b, 6, none⟩ u6).setCell ⟨b, 7, none⟩ u7) b U #[u0, u1, u2, u3, u4, u5, u6, u7, x8, x9, x10, x11] := h6.set 7 u7
  have h8 : Cs (((((((((w.setCell ⟨b, 0, none⟩ u0).setCell ⟨b, 1, none⟩ u1).setCell ⟨b, 2, none⟩ u2).setCell ⟨b, 3, none⟩ u3).setCell ⟨b, 4, none⟩ u4).setCell ⟨b, 5, none⟩ u5).setCell ⟨b, 6, none⟩ u6).setCell ⟨b, 7, none⟩ u7).setCell ⟨b, 8, none⟩ u8) b U #[u0, u1, u2, u3, u4, u5, u6, u7, u8, x9, x10, x11] := h7.set 8 u8
  have h9 : Cs ((((((((((w.setCell ⟨b, 0, none⟩ u0).setCell ⟨b, 1, none⟩ u1).setCell ⟨b, 2, none⟩ u2).setCell ⟨b, 3, none⟩ u3).setCell ⟨b, 4, none⟩ u4).setCell ⟨b, 5, none⟩ u5).setCell ⟨b, 6, none⟩ u6).setCell ⟨b, 7, none⟩ u7).setCell ⟨b, 8, none⟩ u8).setCell ⟨b, 9, none⟩ u9) b U #[u0, u1, u2, u3, u4, u5, u6, u7, u8, u9, x10, x11] := h8.set 9 u9
  have h10 : Cs (((((((((((w.setCell ⟨b, 0, none⟩ u0).setCell ⟨b, 1, none⟩ u1).setCell ⟨b, 2, none⟩ u2).setCell ⟨b, 3, none⟩ u3).setCell ⟨b, 4, none⟩ u4).setCell ⟨b, 5, none⟩ u5).setCell ⟨b, 6, none⟩ u6).setCell ⟨b, 7, none⟩ u7).setCell ⟨b, 8, none⟩ u8).setCell ⟨b, 9, none⟩ u9).setCell ⟨b, 10, none⟩ u10) b U #[u0, u1, u2, u3, u4, u5, u6, u7, u8, u9, u10, x11] := h9.set 10 u10
  have h11 : Cs ((((((((((((w.setCell ⟨b, 0, none⟩ u0).setCell ⟨b, 1, none⟩ u1).setCell ⟨b, 2, none⟩ u2).setCell ⟨b, 3, none⟩ u3).setCell ⟨b, 4, none⟩ u4).setCell ⟨b, 5, none⟩ u5).setCell ⟨b, 6, none⟩ u6).setCell ⟨b, 7, none⟩ u7).setCell ⟨b, 8, none⟩ u8).setCell ⟨b, 9, none⟩ u9).setCell ⟨b, 10, none⟩ u10).setCell ⟨b, 11, none⟩ u11) b U #[u0, u1, u2, u3, u4, u5, u6, u7, u8, u9, u10, u11] := h10.set 11 u11
  exact h11

theorem fin12 {w : World} {b : Nat} {cs : Array Value} (h : Cs w b 42 cs) (hn : cs.size = 12) (P : Nat → Nat) (S : Nat → Bool) :
    ∃ W, ((((((((((((w.setCell ⟨b, 0, none⟩ (pV P S 0)).setCell ⟨b, 1, none⟩ (pV P S 1)).setCell ⟨b, 2, none⟩ (pV P S 2)).setCell ⟨b, 3, none⟩ (pV P S 3)).setCell ⟨b, 4, none⟩ (pV P S 4)).setCell ⟨b, 5, none⟩ (pV P S 5)).setCell ⟨b, 6, none⟩ (pV P S 6)).setCell ⟨b, 7, none⟩ (pV P S 7)).setCell ⟨b, 8, none⟩ (pV P S 8)).setCell ⟨b, 9, none⟩ (pV P S 9)).setCell ⟨b, 10, none⟩ (pV P S 10)).setCell ⟨b, 11, none⟩ (pV P S 11)) = W ∧ Lk W b P S ∧ Kp (fun x => x = b) w W := by
  refine ⟨_, rfl, ?_, ?_⟩
  · obtain ⟨x⟩ := cs
    simp only [List.size_toArray] at hn
    match x, hn, h with
    | [x0, x1, x2, x3, x4, x5, x6, x7, x8, x9, x10, x11], _, h => exact h.set12 (pV P S 0) (pV P S 1) (pV P S 2) (pV P S 3) (pV P S 4) (pV P S 5) (pV P S 6) (pV P S 7) (pV P S 8) (pV P S 9) (pV P S 10) (pV P S 11)
  · exact ((((((((((((Kp.refl (fun x => x = b) w).setCell (p := ⟨b, 0, none⟩) (.inr rfl) _).setCell (p := ⟨b, 1, none⟩) (.inr rfl) _).setCell (p := ⟨b, 2, none⟩) (.inr rfl) _).setCell (p := ⟨b, 3, none⟩) (.inr rfl) _).setCell (p := ⟨b, 4, none⟩) (.inr rfl) _).setCell (p := ⟨b, 5, none⟩) (.inr rfl) _).setCell (p := ⟨b, 6, none⟩) (.inr rfl) _).setCell (p := ⟨b, 7, none⟩) (.inr rfl) _).setCell (p := ⟨b, 8, none⟩) (.inr rfl) _).setCell (p := ⟨b, 9, none⟩) (.inr rfl) _).setCell (p := ⟨b, 10, none⟩) (.inr rfl) _).setCell (p := ⟨b, 11, none⟩) (.inr rfl) _
/-- the cells of a zero array of links -/
abbrev lkZ : Array Value := #[.pointer none, .pointer none, .pointer none, .pointer none, .pointer none, .pointer none, .pointer none, .pointer none, .pointer none, .pointer none, .pointer none, .pointer none]

theorem Lk.zero' (P : Nat → Nat) : lkC P noB = lkZ := rfl

/-- a comparison of an array of pointers with the zero one -/
theorem run_equalIn_ptrs {Pr : Program} (w : World) (d : Nat) (t e : TypeId) (n : Nat) (ht : Pr.underlying t = some (.array n e)) (he : Pr.underlying e = some (.pointer (Pr.pointee e))) (hsz : ∀ w, (sizeOf e).run Pr w = .ok 1 w)
    (xs : List (Option Addr)) (hx : xs.length = n) :
    (Op.equalIn (d + 2) t (.agg (xs.map Value.pointer).toArray) (.agg ((List.replicate n (Value.pointer none)).toArray))).run Pr w = .ok (xs.all fun p => p.isNone) w := by
  rw [show (xs.all fun p => p.isNone) = ((List.range' 0 n).all fun i => (xs.getD i none).isNone) from by
    subst hx
    rw [Bool.eq_iff_iff, List.all_eq_true, List.all_eq_true]
    refine ⟨fun h i hi => ?_, fun h p hp => ?_⟩
    · have : i < xs.length := by simpa using (List.mem_range'_1.1 hi).2
      rw [List.getD_eq_getElem?_getD, List.getElem?_eq_getElem this]; exact h _ (List.getElem_mem _)
    · obtain ⟨i, hi, rfl⟩ := List.getElem_of_mem hp
      have := h i (by simp [List.mem_range'_1]; exact hi)
      rwa [List.getD_eq_getElem?_getD, List.getElem?_eq_getElem hi] at this]
  rw [Op.equalIn]
  simp only [Sem.run_bind, run_underlying ht, Result.andThen_ok, hsz, Std.Legacy.Range.forIn_eq_forIn_range', Std.Legacy.Range.size, Nat.sub_zero, Nat.add_sub_cancel, Nat.div_one]
  have hl : ∀ i ∈ List.range' 0 n 1, i < n := fun i hi => by simpa using (List.mem_range'_1.1 hi).2
  generalize List.range' 0 n 1 = l at hl ⊢
  induction l with
  | nil => simp
  | cons i l ih =>
    have hi : i < n := hl i (by simp)
    have px : (part e (xs.map Value.pointer).toArray (i * 1)).run Pr w = .ok (.pointer (xs.getD i none)) w := by
      simp [part, isAgg, run_underlying he, List.getD, List.getElem?_eq_getElem (show i < xs.length by omega)]
    have py : (part e ((List.replicate n (Value.pointer none)).toArray) (i * 1)).run Pr w = .ok (.pointer none) w := by
      simp [part, isAgg, run_underlying he, List.getD, hi]
    have pe : (Op.equalIn (d + 1) e (.pointer (xs.getD i none)) (.pointer none)).run Pr w = .ok (xs.getD i none).isNone w := run_equalIn_pointer_nil w d e _ he
    simp only [List.forIn_cons, Sem.run_bind, px, py, pe, Result.andThen_ok, List.all_cons]
    cases hb : (xs.getD i none).isNone
    · simp
    · simp only [Bool.not_true, Bool.false_eq_true, if_false, Sem.run_pure, Result.andThen_ok, Bool.true_and]
      exact ih fun j hj => hl j (by simp [hj])
/-- no message is in the set -/
def emB (S : Nat → Bool) : Bool := (List.range 12).all fun k => !S k

theorem emB_true {S : Nat → Bool} : emB S = true ↔ ∀ k, k < 12 → S k = false := by simp [emB]

theorem pO_none {P : Nat → Nat} {S : Nat → Bool} {k : Nat} : (pO P S k).isNone = !S k := by unfold pO; cases S k <;> rfl

theorem run_links_eq (P : Nat → Nat) (S : Nat → Bool) (w : World) : (Op.equalIn 10000 42 (.agg (lkC P S)) (.agg #[.pointer none, .pointer none, .pointer none, .pointer none, .pointer none, .pointer none, .pointer none, .pointer none, .pointer none, .pointer none, .pointer none, .pointer none])).run Try.prog w = .ok (emB S) w := by
  have h := run_equalIn_ptrs (Pr := Try.prog) w 9998 42 40 12 (by kernel_rfl) (by kernel_rfl) (fun _ => by kernel_rfl) ((List.range 12).map fun k => pO P S k) (by simp)
  have e : ((List.range 12).map fun k => pO P S k).all (fun p => p.isNone) = emB S := by
    rw [List.all_map, emB]
    congr 1
    funext k
    exact pO_none
  rw [e] at h
  exact h

theorem run_links_eql (P : Nat → Nat) (S : Nat → Bool) (w : World) : (binOp .eql 42 (.agg (lkC P S)) (.agg #[.pointer none, .pointer none, .pointer none, .pointer none, .pointer none, .pointer none, .pointer none, .pointer none, .pointer none, .pointer none, .pointer none, .pointer none])).run Try.prog w = .ok (.bool (emB S)) w := by
  rw [run_eql_struct, run_links_eq]; rfl

theorem run_links_neq (P : Nat → Nat) (S : Nat → Bool) (w : World) : (binOp .neq 42 (.agg (lkC P S)) (.agg #[.pointer none, .pointer none, .pointer none, .pointer none, .pointer none, .pointer none, .pointer none, .pointer none, .pointer none, .pointer none, .pointer none, .pointer none])).run Try.prog w = .ok (.bool (!emB S)) w := by
  rw [run_neq_struct, run_links_eq]; rfl
end Go.Proofs.Ytdhafappclcijaa
