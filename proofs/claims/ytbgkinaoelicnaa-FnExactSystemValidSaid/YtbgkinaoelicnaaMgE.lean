/-
  Several of my texts in one: GmC GmD GmE GmF. No condition.
-/
import Derived.Test.YtbgkinaoelicnaaMgC

namespace Go.Proofs.Ytbgkinaoelicnaa
open Go.RowKit

theorem info_en : (Try.prog.info? 40).map (fun i => (i.zero, i.size, i.bytes)) = some (some (.agg #[.int .i64 0, .int .i64 0, .int .i64 0, .bool false]), 4, 32) := by kernel_rfl
/-- an entry as a value, and as cells -/
abbrev enV (m t g : Int) (f : Bool) : Value := .agg #[.int .i64 m, .int .i64 t, .int .i64 g, .bool f]

def enW (e : En) : Value := enV e.1 e.2.1.1 e.2.1.2 e.2.2

def enc : List En → List Value
  | [] => []
  | e :: l => .int .i64 e.1 :: .int .i64 e.2.1.1 :: .int .i64 e.2.1.2 :: .bool e.2.2 :: enc l

theorem enc_len (l : List En) : (enc l).length = l.length * 4 := by
  induction l with
  | nil => rfl
  | cons x l ih => simp [enc, ih]; omega

theorem enc_app (l m : List En) : enc (l ++ m) = enc l ++ enc m := by
  induction l with
  | nil => rfl
  | cons x l ih => simp [enc, ih]

theorem enc_one (l : List En) : ∀ u ∈ enc l, u.oneCell' = true := by
  induction l with
  | nil => intro u hu; cases hu
  | cons x l ih =>
    intro u hu
    simp only [enc, List.mem_cons] at hu
    rcases hu with rfl | rfl | rfl | rfl | hu
    · rfl
    · rfl
    · rfl
    · rfl
    · exact ih u hu

theorem enc_get : ∀ (l : List En) (j : Nat) (x : En), l[j]? = some x → (enc l)[j * 4]? = some (.int .i64 x.1) ∧ (enc l)[j * 4 + 1]? = some (.int .i64 x.2.1.1) ∧ (enc l)[j * 4 + 2]? = some (.int .i64 x.2.1.2) ∧ (enc l)[j * 4 + 3]? = some (.bool x.2.2)
  | [], j, x, h => by simp at h
  | y :: l, 0, x, h => by simp at h; subst h; exact ⟨rfl, rfl, rfl, rfl⟩
  | y :: l, j + 1, x, h => by
    have := enc_get l j x (by simpa using h)
    rw [show (j + 1) * 4 = j * 4 + 1 + 1 + 1 + 1 by omega]
    exact this

theorem enc_take (l : List En) (k : Nat) : enc (l.take k) = (enc l).take (k * 4) := by
  induction l generalizing k with
  | nil => simp [enc]
  | cons x l ih =>
    cases k with
    | zero => simp [enc]
    | succ k => rw [show (k + 1) * 4 = k * 4 + 1 + 1 + 1 + 1 by omega]; simp [enc, ih]

theorem enc_drop (l : List En) (k : Nat) : enc (l.drop k) = (enc l).drop (k * 4) := by
  induction l generalizing k with
  | nil => simp [enc]
  | cons x l ih =>
    cases k with
    | zero => simp [enc]
    | succ k => rw [show (k + 1) * 4 = k * 4 + 1 + 1 + 1 + 1 by omega]; simp [enc, ih]

theorem enc_set (l : List En) (k : Nat) (x : En) : enc (l.set k x) = ((((enc l).set (k * 4) (.int .i64 x.1)).set (k * 4 + 1) (.int .i64 x.2.1.1)).set (k * 4 + 2) (.int .i64 x.2.1.2)).set (k * 4 + 3) (.bool x.2.2) := by
  induction l generalizing k with
  | nil => simp [enc]
  | cons y l ih =>
    cases k with
    | zero => simp [enc]
    | succ k => rw [show (k + 1) * 4 = k * 4 + 1 + 1 + 1 + 1 by omega]; simp [enc, ih]

/-- '.slice A n c' reads as the entries zs, all below block B -/
def RdE (w : World) (B : Nat) (A : Option Addr) (n : Nat) (zs : List En) : Prop :=
  zs.length = n ∧ (0 < n → ∃ b off, A = some ⟨b, off, none⟩ ∧ b < B ∧ ∀ j x, zs[j]? = some x →
    w.cell? ⟨b, off + j * 4, none⟩ = some (.int .i64 x.1) ∧ w.cell? ⟨b, off + j * 4 + 1, none⟩ = some (.int .i64 x.2.1.1) ∧ w.cell? ⟨b, off + j * 4 + 2, none⟩ = some (.int .i64 x.2.1.2) ∧ w.cell? ⟨b, off + j * 4 + 3, none⟩ = some (.bool x.2.2))
section
variable {w w' : World} {B B' n : Nat} {A : Option Addr} {zs : List En}

theorem RdE.len (h : RdE w B A n zs) : zs.length = n := h.1

theorem RdE.keep (h : RdE w B A n zs) (hk : ∀ p : Addr, p.block < B → w'.cell? p = w.cell? p) : RdE w' B A n zs :=
  ⟨h.1, fun hn => by
    obtain ⟨b, off, e, hl, hc⟩ := h.2 hn
    exact ⟨b, off, e, hl, fun j x hx => ⟨(hk ⟨b, _, none⟩ hl).trans (hc j x hx).1, (hk ⟨b, _, none⟩ hl).trans (hc j x hx).2.1, (hk ⟨b, _, none⟩ hl).trans (hc j x hx).2.2.1, (hk ⟨b, _, none⟩ hl).trans (hc j x hx).2.2.2⟩⟩⟩

theorem RdE.below (h : RdE w B A n zs) (hb : Below B w w') : RdE w' B A n zs := h.keep fun _ hp => hb.cell hp

theorem RdE.alloc (h : RdE w B A n zs) (hB : B ≤ w.heap.size) (o : Obj) : RdE (w.alloc o) B A n zs := h.keep fun p hp => World.cell?_alloc_lt w o p (by omega)

theorem RdE.drew (h : RdE w B A n zs) : RdE w.drew B A n zs := h

theorem RdE.drewN (h : RdE w B A n zs) (k : Nat) : RdE (w.drewN k) B A n zs := h

theorem RdE.more (h : RdE w B A n zs) (hB : B ≤ B') : RdE w B' A n zs :=
  ⟨h.1, fun hn => by
    obtain ⟨b, off, e, hl, hc⟩ := h.2 hn
    exact ⟨b, off, e, by omega, hc⟩⟩

theorem RdE.nil_ (A : Option Addr) : RdE w B A 0 [] := ⟨rfl, fun h => absurd h (by omega)⟩

theorem RdE.at_ {k : Nat} (h : RdE w B A n zs) (hk : k < n) :
    ∃ b off m t g f, A = some ⟨b, off, none⟩ ∧ Hid (zs[k]? = some (m, (t, g), f)) ∧ b < B ∧ w.cell? ⟨b, off + k * 4, none⟩ = some (.int .i64 m) ∧ w.cell? ⟨b, off + k * 4 + 1, none⟩ = some (.int .i64 t) ∧ w.cell? ⟨b, off + k * 4 + 2, none⟩ = some (.int .i64 g) ∧ w.cell? ⟨b, off + k * 4 + 3, none⟩ = some (.bool f) := by
  obtain ⟨b, off, e, hl, hc⟩ := h.2 (by omega)
  have hlen : k < zs.length := by rw [h.1]; exact hk
  have hx : zs[k]? = some zs[k] := List.getElem?_eq_getElem hlen
  exact ⟨b, off, zs[k].1, zs[k].2.1.1, zs[k].2.1.2, zs[k].2.2, e, hx, hl, hc k _ hx⟩

theorem RdE.drop {b off k : Nat} (h : RdE w B (some ⟨b, off, none⟩) n zs) (hk : k ≤ n) : RdE w B (some ⟨b, off + k * 4, none⟩) (n - k) (zs.drop k) := by
  refine ⟨by rw [List.length_drop, h.1], fun hn => ?_⟩
  obtain ⟨b', off', e, hl, hc⟩ := h.2 (by omega)
  injection e with e
  injection e with e1 e2
  subst e1; subst e2
  refine ⟨b, off + k * 4, rfl, hl, fun j x hx => ?_⟩
  rw [List.getElem?_drop] at hx
  have := hc _ x hx
  rw [show off + k * 4 + j * 4 = off + (k + j) * 4 by omega]
  exact this

theorem RdE.take {k : Nat} (h : RdE w B A n zs) (hk : k ≤ n) : RdE w B A k (zs.take k) := by
  refine ⟨by rw [List.length_take, h.1]; omega, fun hn => ?_⟩
  obtain ⟨b', off', e, hl, hc⟩ := h.2 (by omega)
  refine ⟨b', off', e, hl, fun j x hx => hc j x ?_⟩
  have hj : j < k := by
    have := (List.getElem?_eq_some_iff.1 hx).1
    rw [List.length_take] at this; omega
  rw [List.getElem?_take_of_lt hj] at hx
  exact hx

theorem RdE.empty {A' : Option Addr} (h : RdE w B A n zs) (k : Nat) (hk : n ≤ k) : RdE w B A' 0 (zs.drop k) := by
  refine ⟨?_, fun h => absurd h (by omega)⟩
  rw [List.length_drop, h.1]; omega
/-- as plain cells -/
theorem RdE.cells (h : RdE w B A n zs) : Reads w B 4 A n (enc zs) := by
  refine ⟨by rw [enc_len, h.1], fun hn => ?_⟩
  obtain ⟨b, off, e, hl, hc⟩ := h.2 hn
  refine ⟨⟨b, off, none⟩, e, hl, fun j u hu => ?_⟩
  have hj : j < zs.length * 4 := by rw [← enc_len]; exact (List.getElem?_eq_some_iff.1 hu).1
  have hq : j / 4 < zs.length := by omega
  have hx : zs[j / 4]? = some zs[j / 4] := List.getElem?_eq_getElem hq
  have hg := enc_get zs (j / 4) _ hx
  have hcc := hc (j / 4) _ hx
  have hadd : (⟨b, off, none⟩ : Addr).add j = ⟨b, off + j, none⟩ := by
    unfold Addr.add; by_cases hk : j = 0
    · subst hk; rfl
    · simp [hk]
  rw [hadd]
  rcases (show j = j / 4 * 4 ∨ j = j / 4 * 4 + 1 ∨ j = j / 4 * 4 + 2 ∨ j = j / 4 * 4 + 3 by omega) with e | e | e | e
  · rw [e] at hu ⊢; rw [hg.1] at hu; injection hu with hu; rw [← hu]; exact hcc.1
  · rw [e] at hu ⊢; rw [hg.2.1] at hu; injection hu with hu; rw [← hu, ← Nat.add_assoc]; exact hcc.2.1
  · rw [e] at hu ⊢; rw [hg.2.2.1] at hu; injection hu with hu; rw [← hu, ← Nat.add_assoc]; exact hcc.2.2.1
  · rw [e] at hu ⊢; rw [hg.2.2.2] at hu; injection hu with hu; rw [← hu, ← Nat.add_assoc]; exact hcc.2.2.2
end

/-- v is a slice of entries of the call's own -/
abbrev OwE (w : World) (B : Nat) (v : Value) (zs : List En) : Prop := w.ownsRow B 40 4 v zs.length (enc zs)
section
variable {w w' : World} {B B' : Nat} {v : Value} {zs : List En}
/-- its form, its block told -/
theorem OwE.form (h : OwE w B v zs) : ∃ A c, v = .slice A zs.length c ∧ RdE w w.heap.size A zs.length zs ∧ zs.length ≤ c ∧ c ≤ 9223372036854775807 := by
  rcases h.2 with ⟨rfl, h0⟩ | ⟨g, cap, cur, rfl, hb, hh, hn, hm, hs, ht⟩
  · have hz : zs = [] := List.eq_nil_of_length_eq_zero h0
    subst hz
    exact ⟨none, 0, rfl, RdE.nil_ _, Nat.le_refl _, by omega⟩
  · refine ⟨_, cap, rfl, ⟨rfl, fun _ => ⟨g, 0, rfl, (h.lt g rfl).2, fun j x hx => ?_⟩⟩, hn, by unfold maxLen at hm; omega⟩
    have hx2 := enc_get zs j x hx
    have a0 : ∀ k, (⟨g, 0, none⟩ : Addr).add k = ⟨g, 0 + k, none⟩ := fun k => by
      unfold Addr.add; by_cases hk : k = 0
      · subst hk; rfl
      · simp [hk]
    have e0 := h.cells (g := g) rfl (j * 4) _ hx2.1
    have e1 := h.cells (g := g) rfl (j * 4 + 1) _ hx2.2.1
    have e2 := h.cells (g := g) rfl (j * 4 + 2) _ hx2.2.2.1
    have e3 := h.cells (g := g) rfl (j * 4 + 3) _ hx2.2.2.2
    rw [a0] at e0 e1 e2 e3
    exact ⟨e0, by rw [Nat.add_assoc]; exact e1, by rw [Nat.add_assoc]; exact e2, by rw [Nat.add_assoc]; exact e3⟩

theorem OwE.of_block (h : OwE w B v zs) (hb : ∀ g, v.ownBlock = some g → w'.heap[g]? = w.heap[g]?) : OwE w' B v zs := by
  refine ⟨h.1, ?_⟩
  rcases h.2 with hn | ⟨g, cap, cur, e, hl, hg, hr⟩
  · exact .inl hn
  · exact .inr ⟨g, cap, cur, e, hl, (hb g (by rw [e]; rfl)).trans hg, hr⟩

theorem OwE.below (h : OwE w B v zs) (hb : Below w.heap.size w w') : OwE w' B v zs := h.of_block fun g hg => hb.block g (h.lt g hg).2

theorem OwE.more (h : OwE w B v zs) (hB : B' ≤ B) : OwE w B' v zs := by
  refine ⟨h.1, ?_⟩
  rcases h.2 with hn | ⟨g, cap, cur, e, hb, hr⟩
  · exact .inl hn
  · exact .inr ⟨g, cap, cur, e, Nat.le_trans hB hb, hr⟩

theorem OwE.empty_lit (w : World) (hB : B ≤ w.heap.size) : OwE (w.alloc (.cells #[] 40)) B (.slice (some ⟨w.heap.size, 0, none⟩) 0 0) [] :=
  World.ownsRow_lit w #[] 0 hB (by decide) rfl
end

/-- One append of one entry: 'out = append(out, x)'. The literal's block lies already. -/
theorem wpList_appE {w : World} {ops : Array Oper} {rest : List Oper} {o : Oper} {a : Act} {Q : Exit → Act → World → Prop} (hgd : o.guard = none) (s x : Operand)
    (ho : o.op = .call { callee := .builtin .append, args := #[s, x], argTypes := #[34, 34] })
    (B : Nat) (m t k : Int) (f : Bool) (v : Value) (zs : List En) (hs : a.eval s = v) (hx : a.eval x = .slice (some ⟨w.heap.size, 0, none⟩) 1 1) (hown : OwE w B v zs) (hB : B ≤ w.heap.size) (hn : zs.length < 1099511627776)
    (h : ∀ v' w', OwE w' B v' (zs ++ [(m, (t, k), f)]) → (w.grownBy w' v.ownBlock) → wpList Try.prog ops Q rest (a.put o.dst v') w') :
    wpList Try.prog ops Q (o :: rest) a (w.alloc (.cells #[.int .i64 m, .int .i64 t, .int .i64 k, .bool f] 40)) := by
  obtain ⟨i0, hi, hz0, hz1, hz2⟩ := info_parts info_en
  refine wpList_append_own (P := Try.prog) _ hgd s x 34 ho B 40 i0 (.agg #[.int .i64 0, .int .i64 0, .int .i64 0, .bool false]) 4 32 Try.underlying34 hi hz0 hz1 hz2 rfl (by decide) v zs.length (enc zs) hs (hown.alloc _) ⟨w.heap.size, 0, none⟩ 1 1 [.int .i64 m, .int .i64 t, .int .i64 k, .bool f] hx rfl ?_ ?_ ?_ ?_ ?_ ?_
  · intro j u hj
    match j, hj with
    | 0, hj => simp at hj; subst hj; simp [Addr.add]
    | 1, hj => simp at hj; subst hj; simp [Addr.add]
    | 2, hj => simp at hj; subst hj; simp [Addr.add]
    | 3, hj => simp at hj; subst hj; simp [Addr.add]
  · intro u hu; simp at hu; rcases hu with rfl | rfl | rfl | rfl <;> rfl
  · unfold maxLen; omega
  · omega
  · simp; omega
  · intro v' w' hown' hg _
    refine h v' w' ?_ ?_
    · show w'.ownsRow B 40 4 v' (zs ++ [(m, (t, k), f)]).length (enc (zs ++ [(m, (t, k), f)]))
      rw [enc_app, List.length_append]
      exact hown'
    · exact ⟨hg.os, hg.tape, hg.output, by have := hg.size; simp at this; omega, fun i hi hne => (hg.block i (by simp; omega) hne).trans (Below.heap_alloc w _ i hi)⟩
end Go.Proofs.Ytbgkinaoelicnaa

namespace Go.Proofs.Ytbgkinaoelicnaa
open Go.RowKit

section
variable {S S' : Nat → Prop} {w w' w'' : World}

theorem Kp.own (h : Kp S w w') {B : Nat} {v : Value} {zs : List En} (ho : OwE w B v zs) (hS : ∀ k, v.ownBlock = some k → ¬ S k) : OwE w' B v zs :=
  ho.of_block fun g hg => h.block g (ho.lt g hg).2 (hS g hg)
end

section
variable {S : Nat → Prop} {w w' : World} {b : Nat} {T : TypeId} {cs : Array Value}
end

section
variable {S : Nat → Prop} {w w' : World} {b : Nat} {T : TypeId} {v u : Value}
end

/-- the heap whose box is hb: it holds the slice v of the entries zs -/
def HM (w : World) (lo hb : Nat) (v : Value) (zs : List En) : Prop := Bx w hb 55 v ∧ OwE w lo v zs ∧ v.ownBlock ≠ some hb
/-- the blocks that a heap may turn -/
def HS (hb : Nat) (v : Value) (k : Nat) : Prop := k = hb ∨ v.ownBlock = some k
section
variable {S : Nat → Prop} {w w' : World} {lo hb : Nat} {v : Value} {zs : List En}

theorem HM.below (h : HM w lo hb v zs) (hk : Below w.heap.size w w') : HM w' lo hb v zs := ⟨h.1.below hk, h.2.1.below hk, h.2.2⟩

theorem HM.kp (h : HM w lo hb v zs) (hk : Kp S w w') (h1 : ¬ S hb) (h2 : ∀ k, v.ownBlock = some k → ¬ S k) : HM w' lo hb v zs := ⟨h.1.kp hk h1, hk.own h.2.1 h2, h.2.2⟩

theorem HM.drew (h : HM w lo hb v zs) : HM w.drew lo hb v zs := h
end

/-- the first entries of an owned slice -/
theorem OwE.cut {w : World} {B n c : Nat} {A : Option Addr} {zs : List En} (h : OwE w B (.slice A zs.length c) zs) (hn : n ≤ zs.length) : OwE w B (.slice A n c) (zs.take n) := by
  have hl : (zs.take n).length = n := by rw [List.length_take]; omega
  show w.ownsRow B 40 4 (.slice A n c) (zs.take n).length (enc (zs.take n))
  rw [hl]
  refine ⟨by rw [enc_len, hl], ?_⟩
  rcases h.2 with ⟨e, h0⟩ | ⟨g, cap, cur, e, hb, hh, h1, h2, h3, h4⟩
  · injection e with e1 e2 e3
    subst e1; subst e3
    have : n = 0 := by omega
    subst this
    exact .inl ⟨rfl, rfl⟩
  · injection e with e1 e2 e3
    subst e1; subst e3
    refine .inr ⟨g, c, cur, rfl, hb, hh, by omega, h2, h3, ?_⟩
    rw [enc_take, ← h4, List.take_take]
    congr 1; omega
/-- four cells stored: an entry -/
theorem OwE.put {w : World} {B g n c : Nat} {zs : List En} (h : OwE w B (.slice (some ⟨g, 0, none⟩) n c) zs) (hn : zs.length = n) (k : Nat) (x : En) :
    OwE ((((w.setCell ⟨g, k * 4, none⟩ (.int .i64 x.1)).setCell ⟨g, k * 4 + 1, none⟩ (.int .i64 x.2.1.1)).setCell ⟨g, k * 4 + 2, none⟩ (.int .i64 x.2.1.2)).setCell ⟨g, k * 4 + 3, none⟩ (.bool x.2.2)) B (.slice (some ⟨g, 0, none⟩) n c) (zs.set k x) := by
  subst hn
  have h1 := (h.stored (k * 4) (.int .i64 x.1)).1
  have h2 := (h1.stored (k * 4 + 1) (.int .i64 x.2.1.1)).1
  have h3 := (h2.stored (k * 4 + 2) (.int .i64 x.2.1.2)).1
  have h4 := (h3.stored (k * 4 + 3) (.bool x.2.2)).1
  show World.ownsRow _ B 40 4 _ (zs.set k x).length (enc (zs.set k x))
  rw [enc_set, List.length_set]
  exact h4
/-- the block of an owned slice that is not empty -/
theorem OwE.block_ {w : World} {B n c : Nat} {A : Option Addr} {zs : List En} (h : OwE w B (.slice A n c) zs) (hn : 0 < zs.length) : ∃ g, A = some ⟨g, 0, none⟩ ∧ g < w.heap.size ∧ B ≤ g ∧ zs.length = n := by
  rcases h.2 with ⟨e, h0⟩ | ⟨g, cap, cur, e, hb, hh, hrest⟩
  · omega
  · injection e with e1 e2 e3
    exact ⟨g, e1, (Array.getElem?_eq_some_iff.1 hh).1, hb, e2.symm⟩
end Go.Proofs.Ytbgkinaoelicnaa

namespace Go.Proofs.Ytbgkinaoelicnaa

theorem rel_iff {l : List En} : l.Pairwise relE ↔ (AscE l ∧ (l.map fun e => e.1).Nodup) := by
  unfold AscE List.Nodup
  rw [List.pairwise_map]
  constructor
  · intro h; exact ⟨h.imp fun h => h.1, h.imp fun h => h.2⟩
  · rintro ⟨h, k⟩; exact h.imp₂ (fun _ _ a b => ⟨a, b⟩) k

theorem okE_more {id ck ck' : Int} {e : En} (h : okE id ck e = true) (hc : ck ≤ ck') : okE id ck' e = true := by
  rw [okE_true] at h ⊢
  exact ⟨h.1, h.2.1, by omega, h.2.2.2⟩

theorem Vd.ok {g : Gp} (h : Vd g) {e : En} (he : e ∈ g.D ∨ e ∈ g.P) : okE g.id g.ck e = true := h.2.2.2.1.1 e (List.mem_append.2 he)

theorem Vd.lt {g : Gp} (h : Vd g) {d p : En} (hd : d ∈ g.D) (hp : p ∈ g.P) : ltS d.2.1 p.2.1 = true ∧ d.1 ≠ p.1 := (List.pairwise_append.1 h.2.2.2.1.2).2.2 d hd p hp

theorem mem_at {l : List En} {k : Nat} (h : k < l.length) : atE l k ∈ l := by simp [atE, h]
/-- a message that two entries of a list have is the same entry -/
theorem same_msg {id ck : Int} {l : List En} (h : LsOk id ck l) {a b : En} (ha : a ∈ l) (hb : b ∈ l) (e : a.1 = b.1) : a = b := by
  obtain ⟨i, hi, e1⟩ := List.getElem_of_mem ha
  obtain ⟨j, hj, e2⟩ := List.getElem_of_mem hb
  rcases Nat.lt_trichotomy i j with hij | hij | hij
  · have := (List.pairwise_iff_getElem.1 h.2 i j hi hj hij).2
    rw [e1, e2] at this; exact absurd e this
  · subst hij; rw [← e1, ← e2]
  · have := (List.pairwise_iff_getElem.1 h.2 j i hj hi hij).2
    rw [e1, e2] at this; exact absurd e.symm this
/-- where a message stands -/
theorem pla_mem {id ck : Int} {l : List En} (h : LsOk id ck l) {e : En} (he : e ∈ l) : plI l e.1 ≥ 0 ∧ atE l (pla l e.1) = e ∧ pla l e.1 < l.length := by
  rcases pla_cases l e.1 with ⟨k, x, h1, h2, h3, h4, h5, _⟩ | ⟨_, _, h3⟩
  · have hx : x ∈ l := List.mem_of_getElem? h4
    have := same_msg h hx he h5
    rw [h1, h2, atE_get h4]
    exact ⟨by omega, this, h3⟩
  · exact absurd rfl (h3 e he)

theorem pla_no {l : List En} {m : Int} (h : ∀ e ∈ l, e.1 ≠ m) : plI l m = -1 := (plI_miss h).2

theorem plI_ge {l : List En} {m : Int} (h : plI l m ≥ 0) : pla l m < l.length ∧ atE l (pla l m) ∈ l ∧ (atE l (pla l m)).1 = m := by
  rcases pla_cases l m with ⟨k, x, h1, h2, h3, h4, h5, _⟩ | ⟨_, h2, _⟩
  · rw [h1]; exact ⟨h3, mem_at h3, by rw [atE_get h4]; exact h5⟩
  · omega

theorem plI_lt {l : List En} {m : Int} (h : ¬ plI l m ≥ 0) : ∀ e ∈ l, e.1 ≠ m := by
  rcases pla_cases l m with ⟨k, x, h1, h2, h3, h4, h5, _⟩ | ⟨_, _, h3⟩
  · omega
  · exact h3

/-- the entry of a message of a valid group -/
theorem stA_P {g : Gp} (h : Vd g) {e : En} (he : e ∈ g.P) : stA g e.1 = (e, true) := by
  obtain ⟨h1, h2, _⟩ := pla_mem h.P he
  unfold stA; rw [if_pos h1, h2]

theorem stA_D {g : Gp} (h : Vd g) {e : En} (he : e ∈ g.D) : stA g e.1 = (e, true) := by
  obtain ⟨h1, h2, _⟩ := pla_mem h.D he
  have h3 : ¬ plI g.P e.1 ≥ 0 := by
    rw [pla_no (fun p hp => ((h.lt he hp).2).symm)]; omega
  unfold stA; rw [if_neg h3, if_pos h1, h2]

theorem stA_no {g : Gp} {m : Int} (h1 : ∀ e ∈ g.P, e.1 ≠ m) (h2 : ∀ e ∈ g.D, e.1 ≠ m) : stA g m = (en0, false) := by
  have a : ¬ plI g.P m ≥ 0 := by rw [pla_no h1]; omega
  have b : ¬ plI g.D m ≥ 0 := by rw [pla_no h2]; omega
  unfold stA; rw [if_neg a, if_neg b]
/-- the three cases of a message -/
theorem stA_cases {g : Gp} (m : Int) : (∃ e ∈ g.P, e.1 = m ∧ stA g m = (e, true)) ∨ ((∀ e ∈ g.P, e.1 ≠ m) ∧ ∃ e ∈ g.D, e.1 = m ∧ stA g m = (e, true)) ∨ ((∀ e ∈ g.P, e.1 ≠ m) ∧ (∀ e ∈ g.D, e.1 ≠ m) ∧ stA g m = (en0, false)) := by
  by_cases h1 : plI g.P m ≥ 0
  · obtain ⟨a, b, c⟩ := plI_ge h1
    exact .inl ⟨_, b, c, by unfold stA; rw [if_pos h1]⟩
  · by_cases h2 : plI g.D m ≥ 0
    · obtain ⟨a, b, c⟩ := plI_ge h2
      exact .inr (.inl ⟨plI_lt h1, _, b, c, by unfold stA; rw [if_neg h1, if_pos h2]⟩)
    · exact .inr (.inr ⟨plI_lt h1, plI_lt h2, stA_no (plI_lt h1) (plI_lt h2)⟩)

/-! ### proposals -/
/-- the three ways of a proposal in a valid group -/
theorem prA_cases {g : Gp} (h : Vd g) (m : Int) (hm : msB m = true) :
    (∃ e ∈ g.P, e.1 = m ∧ e.2.2 = false ∧ stA g m = (e, true) ∧ prA g m = (g, e.2.1, true)) ∨
    ((∃ e, (e ∈ g.P ∨ e ∈ g.D) ∧ e.1 = m ∧ e.2.2 = true ∧ stA g m = (e, true)) ∧ prA g m = (g, (0, 0), false)) ∨
    (stA g m = (en0, false) ∧ (∀ e ∈ g.P, e.1 ≠ m) ∧ (∀ e ∈ g.D, e.1 ≠ m) ∧ ((g.ck = 999 ∧ prA g m = (g, (0, 0), false)) ∨
      (g.ck < 999 ∧ prA g m = (⟨g.id, g.ck + 1, g.P ++ [(m, (g.ck + 1, g.id), false)], g.D⟩, (g.ck + 1, g.id), true) ∧ Vd ⟨g.id, g.ck + 1, g.P ++ [(m, (g.ck + 1, g.id), false)], g.D⟩))) := by
  rcases stA_cases (g := g) m with ⟨e, he, e1, hs⟩ | ⟨hP, e, he, e1, hs⟩ | ⟨hP, hD, hs⟩
  · obtain ⟨a, b, _⟩ := pla_mem h.P he
    rw [e1] at a b
    cases hf : e.2.2 with
    | false => exact .inl ⟨e, he, e1, hf, hs, by unfold prA; rw [if_pos ⟨a, by rw [b]; exact hf⟩, b]⟩
    | true => exact .inr (.inl ⟨⟨e, .inl he, e1, hf, hs⟩, by unfold prA; rw [if_neg (by rw [b, hf]; simp), if_pos (.inl a)]⟩)
  · obtain ⟨a, b, _⟩ := pla_mem h.D he
    rw [e1] at a b
    have c : ¬ plI g.P m ≥ 0 := by rw [pla_no hP]; omega
    exact .inr (.inl ⟨⟨e, .inr he, e1, h.2.2.2.2.1 e he, hs⟩, by unfold prA; rw [if_neg (fun h => c h.1), if_pos (.inr (.inl a))]⟩)
  · have a : ¬ plI g.P m ≥ 0 := by rw [pla_no hP]; omega
    have b : ¬ plI g.D m ≥ 0 := by rw [pla_no hD]; omega
    refine .inr (.inr ⟨hs, hP, hD, ?_⟩)
    have hck := h.2.2.1
    by_cases hc : g.ck ≥ 999
    · exact .inl ⟨by omega, by unfold prA; rw [if_neg (fun h => a h.1), if_pos (.inr (.inr hc))]⟩
    · refine .inr ⟨by omega, by unfold prA; rw [if_neg (fun h => a h.1), if_neg (by rintro (h | h | h) <;> contradiction)], ?_⟩
      have hlt : ∀ e, e ∈ g.D ∨ e ∈ g.P → ltS e.2.1 (g.ck + 1, g.id) = true := fun e he => by
        have := (okE_true.1 (h.ok he)).2.2.1
        exact lexB_true.2 (.inl (by show e.2.1.1 < g.ck + 1; omega))
      have hgr := grB_true.1 h.1
      refine ⟨h.1, by show 0 ≤ g.ck + 1; have := h.2.1; omega, by show g.ck + 1 ≤ 999; omega, ⟨fun e he => ?_, ?_⟩, h.2.2.2.2.1, ?_⟩
      · show okE g.id (g.ck + 1) e = true
        rcases List.mem_append.1 he with he | he
        · exact okE_more (h.ok (.inl he)) (by omega)
        · rcases List.mem_append.1 he with he | he
          · exact okE_more (h.ok (.inr he)) (by omega)
          · rw [List.mem_singleton.1 he, okE_true]
            refine ⟨hm, stB_true.2 ?_, Int.le_refl _, .inr rfl⟩
            have := h.2.1
            show 1 ≤ g.ck + 1 ∧ g.ck + 1 ≤ 999 ∧ 0 ≤ g.id ∧ g.id ≤ 4
            omega
      · show (g.D ++ (g.P ++ [(m, (g.ck + 1, g.id), false)])).Pairwise relE
        rw [← List.append_assoc, List.pairwise_append]
        refine ⟨h.2.2.2.1.2, List.pairwise_singleton _ _, fun a ha b hb => ?_⟩
        rw [List.mem_singleton.1 hb]
        refine ⟨hlt a (List.mem_append.1 ha), ?_⟩
        rcases List.mem_append.1 ha with ha | ha
        · exact hD a ha
        · exact hP a ha
      · show ((g.P ++ [(m, (g.ck + 1, g.id), false)]).head?.all fun e => !e.2.2) = true
        have := h.2.2.2.2.2
        cases hp : g.P with
        | nil => rfl
        | cons p l => rw [hp] at this; exact this

/-! ### final stamps -/
theorem tld_app {l m : List En} (h : ∀ e ∈ l, e.2.2 = true) : tld (l ++ m) = l ++ tld m := List.takeWhile_append_of_pos h

theorem lft_app {l m : List En} (h : ∀ e ∈ l, e.2.2 = true) : lft (l ++ m) = lft m := List.dropWhile_append_of_pos h

theorem tld_lft (l : List En) : tld l ++ lft l = l := List.takeWhile_append_dropWhile

theorem tld_final (l : List En) : ∀ e ∈ tld l, e.2.2 = true := fun _ he => mem_while (p := fun e : En => e.2.2) he

theorem lft_head (l : List En) : ((lft l).head?.all fun e => !e.2.2) = true := by
  induction l with
  | nil => rfl
  | cons x l ih =>
    cases h : x.2.2 with
    | true => simpa [lft, h] using ih
    | false => simp [lft, h]

theorem tld_none {l : List En} (h : (l.head?.all fun e => !e.2.2) = true) : tld l = [] := by
  cases l with
  | nil => rfl
  | cons x l =>
    have hx : x.2.2 = false := by simpa using h
    simp [tld, hx]

theorem lft_none {l : List En} (h : (l.head?.all fun e => !e.2.2) = true) : lft l = l := by
  have := tld_lft l
  rw [tld_none h] at this
  simpa using this
/-- what it means that a final stamp is taken -/
def FiIs (g : Gp) (m : Int) (s : St) (x : En) : Prop := x ∈ g.P ∧ x.1 = m ∧ x.2.2 = false ∧ ltS s x.2.1 = false ∧ ∀ e, e ∈ g.D ∨ e ∈ g.P → e.1 ≠ m → e.2.1 ≠ s

theorem rst_mem {g : Gp} (h : Vd g) {x : En} (hx : x ∈ g.P) : (∀ e, e ∈ rst g.P x.1 ↔ (e ∈ g.P ∧ e.1 ≠ x.1)) ∧ g.P.Perm (x :: rst g.P x.1) := by
  obtain ⟨_, h2, h3⟩ := pla_mem h.P hx
  have hp := rst_perm (l := g.P) (m := x.1) rfl h3
  rw [h2] at hp
  refine ⟨fun e => ⟨fun he => ⟨hp.mem_iff.2 (List.mem_cons_of_mem _ he), ?_⟩, fun ⟨he, hne⟩ => ?_⟩, hp⟩
  · have hn := (rel_iff.1 h.P.2).2
    have hn2 := (hp.map fun e => e.1).nodup_iff.1 hn
    rw [List.map_cons, List.nodup_cons] at hn2
    intro e1
    have h9 : e.1 ∈ (rst g.P x.1).map (fun e => e.1) := List.mem_map_of_mem he
    rw [e1] at h9
    exact hn2.1 h9
  · rcases List.mem_cons.1 (hp.mem_iff.1 he) with e1 | e1
    · exact absurd (by rw [e1]) hne
    · exact e1

theorem fiOk_iff {g : Gp} (h : Vd g) (m : Int) (s : St) : fiOk g m s = true ↔ ∃ x, FiIs g m s x := by
  constructor
  · intro hf
    simp only [fiOk, Bool.and_eq_true, decide_eq_true_eq, Bool.not_eq_true', Bool.and_eq_false_iff, decide_eq_false_iff_not] at hf
    obtain ⟨⟨⟨h1, h2⟩, h3⟩, h4⟩ := hf
    obtain ⟨a, b, c⟩ := plI_ge h1
    refine ⟨atE g.P (pla g.P m), b, c, h2, h3, fun e he hne hs => ?_⟩
    have hD : ∀ d ∈ g.D, ltS d.2.1 s = true := fun d hd => by
      have h5 := (h.lt hd b).1
      cases h6 : ltS d.2.1 s with
      | true => rfl
      | false => exact absurd h5 (by rw [ltS_ntrans h6 h3]; simp)
    rcases he with he | he
    · have := hD e he
      rw [hs, ltS_irr] at this; cases this
    · have hr := ((rst_mem h b).1 e).2 ⟨he, by rw [c]; exact hne⟩
      rw [c] at hr
      have ht := (tkn h.ascP m s).2 ⟨e, hr, hs⟩
      rcases h4 with h4 | h4
      · exact h4 ht.1
      · exact h4 ht.2
  · rintro ⟨x, hx, hm, hf, hlt, hne⟩
    obtain ⟨h1, h2, h3⟩ := pla_mem h.P hx
    rw [hm] at h1 h2 h3
    simp only [fiOk, Bool.and_eq_true, decide_eq_true_eq, Bool.not_eq_true', Bool.and_eq_false_iff, decide_eq_false_iff_not]
    rw [h2]
    refine ⟨⟨⟨h1, hf⟩, hlt⟩, ?_⟩
    by_cases ht : cnt (rst g.P m) s < (rst g.P m).length ∧ keyE (rst g.P m) (cnt (rst g.P m) s) = s
    · obtain ⟨e, he, hs⟩ := (tkn h.ascP m s).1 ht
      have := ((rst_mem h hx).1 e).1 (by rw [hm]; exact he)
      exact absurd hs (hne e (.inr this.1) (by rw [← hm]; exact this.2))
    · by_cases h5 : cnt (rst g.P m) s < (rst g.P m).length
      · exact .inr (fun h6 => ht ⟨h5, h6⟩)
      · exact .inl h5
/-- the group behind a final stamp -/
def fiG (g : Gp) (m : Int) (s : St) : Gp := ⟨g.id, max g.ck s.1, lft (ins g.P m s), g.D ++ tld (ins g.P m s)⟩

theorem fiA_yes {g : Gp} {m : Int} {s : St} (h : fiOk g m s = true) : fiA g m s = (fiG g m s, msgs (tld (ins g.P m s)), true) := by unfold fiA fiG; rw [if_pos h]

theorem fiA_no {g : Gp} {m : Int} {s : St} (h : fiOk g m s = false) : fiA g m s = (g, [], false) := by unfold fiA; rw [h]; rfl

theorem fiG_all (g : Gp) (m : Int) (s : St) : (fiG g m s).D ++ (fiG g m s).P = g.D ++ ins g.P m s := by
  show (g.D ++ tld (ins g.P m s)) ++ lft (ins g.P m s) = _
  rw [List.append_assoc, tld_lft]

theorem ins_mem {g : Gp} (h : Vd g) {m : Int} {s : St} {x : En} (hx : FiIs g m s x) (e : En) : e ∈ ins g.P m s ↔ (e = (m, s, true) ∨ (e ∈ g.P ∧ e.1 ≠ m)) := by
  rw [(ins_perm g.P m s).mem_iff, List.mem_cons]
  have := (rst_mem h hx.1).1 e
  rw [hx.2.1] at this
  rw [this]

theorem fiG_valid {g : Gp} (h : Vd g) {m : Int} {s : St} {x : En} (hx : FiIs g m s x) (hm : msB m = true) (hs : okS s = true) : Vd (fiG g m s) := by
  have hgr := h.1
  have hns : ∀ e ∈ rst g.P m, e.2.1 ≠ s := fun e he => by
    have := ((rst_mem h hx.1).1 e).1 (by rw [hx.2.1]; exact he)
    exact hx.2.2.2.2 e (.inr this.1) (by rw [← hx.2.1]; exact this.2)
  have hmem := ins_mem h hx
  have hs9 := stB_true.1 hs
  refine ⟨hgr, by show 0 ≤ max g.ck s.1; have := h.2.1; omega, by show max g.ck s.1 ≤ 999; have := h.2.2.1; omega, ?_, ?_, lft_head _⟩
  · rw [fiG_all]
    refine ⟨fun e he => ?_, rel_iff.2 ⟨?_, ?_⟩⟩
    · show okE g.id (max g.ck s.1) e = true
      rcases List.mem_append.1 he with he | he
      · exact okE_more (h.ok (.inl he)) (by omega)
      · rcases (hmem e).1 he with e1 | ⟨e1, _⟩
        · rw [e1, okE_true]
          exact ⟨hm, hs, by show s.1 ≤ max g.ck s.1; omega, .inl rfl⟩
        · exact okE_more (h.ok (.inr e1)) (by omega)
    · unfold AscE
      rw [List.pairwise_append]
      refine ⟨rel_asc h.D.2, ins_asc h.ascP m s hns, fun d hd e he => ?_⟩
      rcases (hmem e).1 he with e1 | ⟨e1, _⟩
      · rw [e1]
        have h5 := (h.lt hd hx.1).1
        cases h6 : ltS d.2.1 s with
        | true => rfl
        | false => exact absurd h5 (by rw [ltS_ntrans h6 hx.2.2.2.1]; simp)
      · exact (h.lt hd e1).1
    · have h1 := (rel_iff.1 h.2.2.2.1.2).2
      have hp : ((g.D ++ ins g.P m s).map fun e => e.1).Perm ((g.D ++ g.P).map fun e => e.1) := by
        rw [List.map_append, List.map_append]
        refine List.Perm.append (List.Perm.refl _) ?_
        have a := (ins_perm g.P m s).map fun e => e.1
        have b := (rst_mem h hx.1).2.map fun e => e.1
        rw [hx.2.1] at b
        refine a.trans ?_
        have e : (((m, s, true) : En) :: rst g.P m).map (fun e => e.1) = (x :: rst g.P m).map (fun e => e.1) := by simp [hx.2.1]
        rw [e]; exact b.symm
      exact hp.nodup_iff.2 h1
  · intro e he
    rcases List.mem_append.1 he with he | he
    · exact h.2.2.2.2.1 e he
    · exact tld_final _ e he
/-- the new entry is known -/
theorem fiG_entry {g : Gp} (h : Vd g) {m : Int} {s : St} {x : En} (hx : FiIs g m s x) (hm : msB m = true) (hs : okS s = true) : stA (fiG g m s) m = ((m, s, true), true) := by
  have hv := fiG_valid h hx hm hs
  have he : ((m, s, true) : En) ∈ (fiG g m s).D ++ (fiG g m s).P := by
    rw [fiG_all]; exact List.mem_append_right _ ((ins_mem h hx _).2 (.inl rfl))
  rcases List.mem_append.1 he with he | he
  · have h9 := stA_D (e := ((m, s, true) : En)) hv he
    simp only at h9
    rw [h9]
  · have h9 := stA_P (e := ((m, s, true) : En)) hv he
    simp only at h9
    rw [h9]

/-- two ascending lists of the same entries are one -/
theorem asc_eq : ∀ {l m : List En}, AscE l → AscE m → l.Perm m → l = m
  | [], m, _, _, h => by rw [List.nil_perm.1 h]
  | x :: l, [], _, _, h => by have := h.length_eq; simp at this
  | x :: l, y :: m, hl, hm, h => by
    have hx : x ∈ y :: m := h.mem_iff.1 (by simp)
    have hy : y ∈ x :: l := h.mem_iff.2 (by simp)
    have e : x = y := by
      rcases List.mem_cons.1 hx with e | e
      · exact e
      · rcases List.mem_cons.1 hy with e2 | e2
        · exact e2.symm
        · have h1 := (List.pairwise_cons.1 hl).1 y e2
          have h2 := (List.pairwise_cons.1 hm).1 x e
          rw [ltS_asymm h1] at h2; cases h2
    subst e
    have h2 := (List.perm_cons x).1 h
    rw [asc_eq (List.pairwise_cons.1 hl).2 (List.pairwise_cons.1 hm).2 h2]
/-- a valid group is its number, its clock, and all of its entries -/
theorem gp_eq {g k : Gp} (hg : Vd g) (hk : Vd k) (h1 : g.id = k.id) (h2 : g.ck = k.ck) (h3 : (g.D ++ g.P).Perm (k.D ++ k.P)) : g = k := by
  have e := asc_eq (rel_asc hg.2.2.2.1.2) (rel_asc hk.2.2.2.1.2) h3
  have gD : tld (g.D ++ g.P) = g.D := by rw [tld_app hg.2.2.2.2.1, tld_none hg.2.2.2.2.2]; simp
  have kD : tld (k.D ++ k.P) = k.D := by rw [tld_app hk.2.2.2.2.1, tld_none hk.2.2.2.2.2]; simp
  have gP : lft (g.D ++ g.P) = g.P := by rw [lft_app hg.2.2.2.2.1, lft_none hg.2.2.2.2.2]
  have kP : lft (k.D ++ k.P) = k.P := by rw [lft_app hk.2.2.2.2.1, lft_none hk.2.2.2.2.2]
  have hD : g.D = k.D := by rw [← gD, ← kD, e]
  have hP : g.P = k.P := by rw [← gP, ← kP, e]
  cases g; cases k
  simp only at h1 h2 hD hP
  rw [h1, h2, hD, hP]
/-- all entries behind a final stamp -/
theorem fiG_perm {g : Gp} (h : Vd g) {m : Int} {s : St} {x : En} (hx : FiIs g m s x) : ∃ R, (g.D ++ g.P).Perm (x :: R) ∧ ((fiG g m s).D ++ (fiG g m s).P).Perm ((m, s, true) :: R) := by
  refine ⟨g.D ++ rst g.P m, ?_, ?_⟩
  · have := (rst_mem h hx.1).2
    rw [hx.2.1] at this
    exact (List.Perm.append (List.Perm.refl _) this).trans List.perm_middle
  · rw [fiG_all]
    exact (List.Perm.append (List.Perm.refl _) (ins_perm g.P m s)).trans List.perm_middle
/-- what is pending and not final stays so, but for the message itself -/
theorem fiG_open {g : Gp} (h : Vd g) {m : Int} {s : St} {x : En} (hx : FiIs g m s x) {e : En} : (e ∈ (fiG g m s).D ∨ e ∈ (fiG g m s).P) ↔ (e = (m, s, true) ∨ ((e ∈ g.D ∨ e ∈ g.P) ∧ e.1 ≠ m)) := by
  rw [← List.mem_append, fiG_all, List.mem_append, ins_mem h hx]
  have hd : ∀ d ∈ g.D, d.1 ≠ m := fun d hd => by rw [← hx.2.1]; exact (h.lt hd hx.1).2
  constructor
  · rintro (h1 | h1 | h1)
    · exact .inr ⟨.inl h1, hd e h1⟩
    · exact .inl h1
    · exact .inr ⟨.inr h1.1, h1.2⟩
  · rintro (h1 | ⟨h1 | h1, h2⟩)
    · exact .inr (.inl h1)
    · exact .inl h1
    · exact .inr (.inr ⟨h1, h2⟩)

theorem open_P {g : Gp} (h : Vd g) {e : En} (he : e ∈ g.D ∨ e ∈ g.P) (hf : e.2.2 = false) : e ∈ g.P := by
  rcases he with he | he
  · have := h.2.2.2.2.1 e he
    rw [hf] at this; cases this
  · exact he
/-- the order of two final stamps does not matter -/
theorem fi_comm {g : Gp} (h : Vd g) {m k : Int} {s t : St} (hm : msB m = true) (hs : okS s = true) (hk : msB k = true) (ht : okS t = true)
    (h1 : fiOk g m s = true) (h2 : fiOk (fiG g m s) k t = true) (h3 : fiOk g k t = true) : fiOk (fiG g k t) m s = true ∧ fiG (fiG g k t) m s = fiG (fiG g m s) k t := by
  obtain ⟨x, hx⟩ := (fiOk_iff h m s).1 h1
  obtain ⟨y, hy⟩ := (fiOk_iff h k t).1 h3
  have v1 := fiG_valid h hx hm hs
  have v2 := fiG_valid h hy hk ht
  obtain ⟨z, hz⟩ := (fiOk_iff v1 k t).1 h2
  have hne : k ≠ m := by
    intro e
    subst e
    have h4 := stA_P v1 hz.1
    rw [hz.2.1, fiG_entry h hx hm hs] at h4
    injection h4 with h4 _
    have := hz.2.2.1
    rw [← h4] at this; cases this
  have hzy : z = y := by
    rcases (fiG_open h hx).1 (.inr hz.1) with e | ⟨e, _⟩
    · have := hz.2.1
      rw [e] at this
      exact absurd this.symm hne
    · exact same_msg h.P (open_P h e hz.2.2.1) hy.1 (by rw [hz.2.1, hy.2.1])
  subst hzy
  have hx2 : FiIs (fiG g k t) m s x := by
    have hin : x ∈ (fiG g k t).D ∨ x ∈ (fiG g k t).P := (fiG_open h hy).2 (.inr ⟨.inr hx.1, by rw [hx.2.1]; exact fun e => hne e.symm⟩)
    refine ⟨open_P v2 hin hx.2.2.1, hx.2.1, hx.2.2.1, hx.2.2.2.1, fun e he hem hes => ?_⟩
    rcases (fiG_open h hy).1 he with e1 | ⟨e1, _⟩
    · have := hz.2.2.2.2 (m, s, true) ((fiG_open h hx).2 (.inl rfl)) (fun e => hne e.symm)
      rw [e1] at hes
      exact this hes.symm
    · exact hx.2.2.2.2 e e1 hem hes
  have ok2 := (fiOk_iff v2 m s).2 ⟨x, hx2⟩
  refine ⟨ok2, gp_eq (fiG_valid v2 hx2 hm hs) (fiG_valid v1 hz hk ht) rfl (by show max (max g.ck t.1) s.1 = max (max g.ck s.1) t.1; omega) ?_⟩
  obtain ⟨R1, a1, b1⟩ := fiG_perm h hx
  obtain ⟨R2, a2, b2⟩ := fiG_perm h hy
  obtain ⟨R3, a3, b3⟩ := fiG_perm v1 hz
  obtain ⟨R4, a4, b4⟩ := fiG_perm v2 hx2
  -- all four rests are the same entries
  have hxz : x ≠ z := fun e => hne (by rw [← hz.2.1, ← e, hx.2.1])
  have c1 : (x :: R1).Perm (z :: R2) := a1.symm.trans a2
  have c3 : (((m, s, true) : En) :: R1).Perm (z :: R3) := b1.symm.trans a3
  have c4 : (((k, t, true) : En) :: R2).Perm (x :: R4) := b2.symm.trans a4
  refine b4.trans (List.Perm.trans ?_ b3.symm)
  have hz1 : z ∈ R1 := by
    rcases List.mem_cons.1 (c1.mem_iff.2 (by simp : z ∈ z :: R2)) with e | e
    · exact absurd e.symm hxz
    · exact e
  obtain ⟨R, hR⟩ : ∃ R, R1.Perm (z :: R) := ⟨R1.erase z, List.perm_cons_erase hz1⟩
  have d2 : R2.Perm (x :: R) := by
    have : (z :: R2).Perm (z :: x :: R) := c1.symm.trans (((List.perm_cons x).2 hR).trans (List.Perm.swap z x R))
    exact (List.perm_cons z).1 this
  have d3 : R3.Perm ((m, s, true) :: R) := by
    have : (z :: R3).Perm (z :: (m, s, true) :: R) := c3.symm.trans (((List.perm_cons _).2 hR).trans (List.Perm.swap z _ R))
    exact (List.perm_cons z).1 this
  have d4 : R4.Perm ((k, t, true) :: R) := by
    have : (x :: R4).Perm (x :: (k, t, true) :: R) := c4.symm.trans (((List.perm_cons _).2 d2).trans (List.Perm.swap x _ R))
    exact (List.perm_cons x).1 this
  exact ((List.perm_cons _).2 d4).trans ((List.Perm.swap _ _ R).trans ((List.perm_cons _).2 d3).symm)
end Go.Proofs.Ytbgkinaoelicnaa

namespace Go.Proofs.Ytbgkinaoelicnaa
open Go.RowKit
set_option linter.unusedVariables false

section
variable {W : World}

theorem BW.rde (x : BW W) {A : Option Addr} {n : Nat} {zs : List En} (h : RdE W W.heap.size A n zs) : RdE x.wd x.wd.heap.size A n zs := (h.below x.below).more x.below.size
end

set_option maxHeartbeats 1000000 in
theorem l11Find_any {B n c : Nat} {A : Option Addr} {zs : List En} (m : Int) (w : World) (hr : RdE w B A n zs) (hn : n < 1099511627776) :
    Calls Try.prog 21 #[.slice A n c, .int .i64 m] w fun e w' => e = .returned (.int .i64 (plI zs m)) ∧ w = w' := by
  have hl' := hid hr.len
  have hr' := hid hr
  clear hr
  go_enter Try.func21, Try.ntmps21
  go_wp2
  go_loop [5] (fun i => ∃ k : Nat, k ≤ n ∧ i = .int .i64 k ∧ Hid (∀ j y, j < k → zs[j]? = some y → y.1 ≠ m)) (fun i => n - (intOf i).toNat)
  case atStart => exact ⟨0, Nat.zero_le _, rfl, hid (fun j y h => by omega)⟩
  case round =>
    obtain ⟨k, hk, rfl, hmiss⟩ := hrel
    by_cases hlt : k < n
    · obtain ⟨b, off, m', t, g, f, rfl, hx, hb, c0, c1, c2, c3⟩ := hr'.out.at_ hlt
      by_cases he : m' = m
      · have heq : (m' == m) = true := by simp [he]
        have R := hid (plI_hit hx.out he hmiss.out).2
        have he' := hid he
        clear he
        go_wp2
        go_ret
        exact ⟨ret_int R.out.symm, rfl⟩
      · have heq : (m' == m) = false := by simp [he]
        have he' := hid he
        clear he
        go_wp2
        go_round
        case rel => exact ⟨k + 1, by omega, by go_num, hid (fun j y hj hy => by
            by_cases e : j = k
            · subst e; rw [hx.out] at hy; injection hy with hy; rw [← hy]; exact he'.out
            · exact hmiss.out j y (by omega) hy)⟩
        case measure => simp [intOf]; omega
    · have R : Hid (plI zs m = -1) := hid (plI_miss (fun e he => by
        obtain ⟨j, hj, e1⟩ := List.getElem_of_mem he
        exact hmiss.out j e (by rw [hl'.out] at hj; omega) (by rw [List.getElem?_eq_getElem hj, e1]))).2
      go_wp2
      go_ret
      exact ⟨ret_int R.out.symm, rfl⟩

end Go.Proofs.Ytbgkinaoelicnaa
