/-
  Slices of entries: read, owned, appended to, cut, stored into. No condition.
-/
import Derived.Test.YtbnmeedmeikepaaSmE
import Derived.Test.YtbnmeedmeikepaaGmB
namespace Go.Proofs.Ytbnmeedmeikepaa
open Go.RowKit

theorem info_en : (Try.prog.info? 34).map (fun i => (i.zero, i.size, i.bytes)) = some (some (.agg #[.int .i64 0, .int .i64 0, .int .i64 0, .bool false]), 4, 32) := by kernel_rfl
/-- an entry as a value, and as cells -/
abbrev enV (m t g : Int) (f : Bool) : Value := .agg #[.int .i64 m, .int .i64 t, .int .i64 g, .bool f]

def enW (e : En) : Value := enV e.1 e.2.1.1 e.2.1.2 e.2.2

def enc : List En → List Value
  | [] => []
  | e :: l => .int .i64 e.1 :: .int .i64 e.2.1.1 :: .int .i64 e.2.1.2 :: .bool e.2.2 :: enc l

theorem enc_len (l : List En) : (enc l).length = l.length * 4 := by
  induction l with
  | nil => rfl
  | cons x l ih => simp [enc, ih]; omega

theorem enc_app (l m : List En) : enc (l ++ m) = enc l ++ enc m := by
  induction l with
  | nil => rfl
  | cons x l ih => simp [enc, ih]

theorem enc_one (l : List En) : ∀ u ∈ enc l, u.oneCell' = true := by
  induction l with
  | nil => intro u hu; cases hu
  | cons x l ih =>
    intro u hu
    simp only [enc, List.mem_cons] at hu
    rcases hu with rfl | rfl | rfl | rfl | hu
    · rfl
    · rfl
    · rfl
    · rfl
    · exact ih u hu

theorem enc_get : ∀ (l : List En) (j : Nat) (x : En), l[j]? = some x → (enc l)[j * 4]? = some (.int .i64 x.1) ∧ (enc l)[j * 4 + 1]? = some (.int .i64 x.2.1.1) ∧ (enc l)[j * 4 + 2]? = some (.int .i64 x.2.1.2) ∧ (enc l)[j * 4 + 3]? = some (.bool x.2.2)
  | [], j, x, h => by simp at h
  | y :: l, 0, x, h => by simp at h; subst h; exact ⟨rfl, rfl, rfl, rfl⟩
  | y :: l, j + 1, x, h => by
    have := enc_get l j x (by simpa using h)
    rw [show (j + 1) * 4 = j * 4 + 1 + 1 + 1 + 1 by omega]
    exact this

theorem enc_take (l : List En) (k : Nat) : enc (l.take k) = (enc l).take (k * 4) := by
  induction l generalizing k with
  | nil => simp [enc]
  | cons x l ih =>
    cases k with
    | zero => simp [enc]
    | succ k => rw [show (k + 1) * 4 = k * 4 + 1 + 1 + 1 + 1 by omega]; simp [enc, ih]

theorem enc_drop (l : List En) (k : Nat) : enc (l.drop k) = (enc l).drop (k * 4) := by
  induction l generalizing k with
  | nil => simp [enc]
  | cons x l ih =>
    cases k with
    | zero => simp [enc]
    | succ k => rw [show (k + 1) * 4 = k * 4 + 1 + 1 + 1 + 1 by omega]; simp [enc, ih]

theorem enc_set (l : List En) (k : Nat) (x : En) : enc (l.set k x) = ((((enc l).set (k * 4) (.int .i64 x.1)).set (k * 4 + 1) (.int .i64 x.2.1.1)).set (k * 4 + 2) (.int .i64 x.2.1.2)).set (k * 4 + 3) (.bool x.2.2) := by
  induction l generalizing k with
  | nil => simp [enc]
  | cons y l ih =>
    cases k with
    | zero => simp [enc]
    | succ k => rw [show (k + 1) * 4 = k * 4 + 1 + 1 + 1 + 1 by omega]; simp [enc, ih]

/-- '.slice A n c' reads as the entries zs, all below block B -/
def RdE (w : World) (B : Nat) (A : Option Addr) (n : Nat) (zs : List En) : Prop :=
  zs.length = n ∧ (0 < n → ∃ b off, A = some ⟨b, off, none⟩ ∧ b < B ∧ ∀ j x, zs[j]? = some x →
    w.cell? ⟨b, off + j * 4, none⟩ = some (.int .i64 x.1) ∧ w.cell? ⟨b, off + j * 4 + 1, none⟩ = some (.int .i64 x.2.1.1) ∧ w.cell? ⟨b, off + j * 4 + 2, none⟩ = some (.int .i64 x.2.1.2) ∧ w.cell? ⟨b, off + j * 4 + 3, none⟩ = some (.bool x.2.2))
section
variable {w w' : World} {B B' n : Nat} {A : Option Addr} {zs : List En}

theorem RdE.len (h : RdE w B A n zs) : zs.length = n := h.1

theorem RdE.keep (h : RdE w B A n zs) (hk : ∀ p : Addr, p.block < B → w'.cell? p = w.cell? p) : RdE w' B A n zs :=
  ⟨h.1, fun hn => by
    obtain ⟨b, off, e, hl, hc⟩ := h.2 hn
    exact ⟨b, off, e, hl, fun j x hx => ⟨(hk ⟨b, _, none⟩ hl).trans (hc j x hx).1, (hk ⟨b, _, none⟩ hl).trans (hc j x hx).2.1, (hk ⟨b, _, none⟩ hl).trans (hc j x hx).2.2.1, (hk ⟨b, _, none⟩ hl).trans (hc j x hx).2.2.2⟩⟩⟩

theorem RdE.below (h : RdE w B A n zs) (hb : Below B w w') : RdE w' B A n zs := h.keep fun _ hp => hb.cell hp

theorem RdE.alloc (h : RdE w B A n zs) (hB : B ≤ w.heap.size) (o : Obj) : RdE (w.alloc o) B A n zs := h.keep fun p hp => World.cell?_alloc_lt w o p (by omega)

theorem RdE.drew (h : RdE w B A n zs) : RdE w.drew B A n zs := h

theorem RdE.drewN (h : RdE w B A n zs) (k : Nat) : RdE (w.drewN k) B A n zs := h

theorem RdE.more (h : RdE w B A n zs) (hB : B ≤ B') : RdE w B' A n zs :=
  ⟨h.1, fun hn => by
    obtain ⟨b, off, e, hl, hc⟩ := h.2 hn
    exact ⟨b, off, e, by omega, hc⟩⟩

theorem RdE.nil_ (A : Option Addr) : RdE w B A 0 [] := ⟨rfl, fun h => absurd h (by omega)⟩

theorem RdE.at_ {k : Nat} (h : RdE w B A n zs) (hk : k < n) :
    ∃ b off m t g f, A = some ⟨b, off, none⟩ ∧ Hid (zs[k]? = some (m, (t, g), f)) ∧ b < B ∧ w.cell? ⟨b, off + k * 4, none⟩ = some (.int .i64 m) ∧ w.cell? ⟨b, off + k * 4 + 1, none⟩ = some (.int .i64 t) ∧ w.cell? ⟨b, off + k * 4 + 2, none⟩ = some (.int .i64 g) ∧ w.cell? ⟨b, off + k * 4 + 3, none⟩ = some (.bool f) := by
  obtain ⟨b, off, e, hl, hc⟩ := h.2 (by omega)
  have hlen : k < zs.length := by rw [h.1]; exact hk
  have hx : zs[k]? = some zs[k] := List.getElem?_eq_getElem hlen
  exact ⟨b, off, zs[k].1, zs[k].2.1.1, zs[k].2.1.2, zs[k].2.2, e, hx, hl, hc k _ hx⟩

theorem RdE.drop {b off k : Nat} (h : RdE w B (some ⟨b, off, none⟩) n zs) (hk : k ≤ n) : RdE w B (some ⟨b, off + k * 4, none⟩) (n - k) (zs.drop k) := by
  refine ⟨by rw [List.length_drop, h.1], fun hn => ?_⟩
  obtain ⟨b', off', e, hl, hc⟩ := h.2 (by omega)
  injection e with e
  injection e with e1 e2
  subst e1; subst e2
  refine ⟨b, off + k * 4, rfl, hl, fun j x hx => ?_⟩
  rw [List.getElem?_drop] at hx
  have := hc _ x hx
  rw [show off + k * 4 + j * 4 = off + (k + j) * 4 by omega]
  exact this

theorem RdE.take {k : Nat} (h : RdE w B A n zs) (hk : k ≤ n) : RdE w B A k (zs.take k) := by
  refine ⟨by rw [List.length_take, h.1]; omega, fun hn => ?_⟩
  obtain ⟨b', off', e, hl, hc⟩ := h.2 (by omega)
  refine ⟨b', off', e, hl, fun j x hx => hc j x ?_⟩
  have hj : j < k := by
    have := (List.getElem?_eq_some_iff.1 hx).1
    rw [List.length_take] at this; omega
  rw [List.getElem?_take_of_lt hj] at hx
  exact hx

theorem RdE.empty {A' : Option Addr} (h : RdE w B A n zs) (k : Nat) (hk : n ≤ k) : RdE w B A' 0 (zs.drop k) := by
  refine ⟨?_, fun h => absurd h (by omega)⟩
  rw [List.length_drop, h.1]; omega
/-- as plain cells -/
theorem RdE.cells (h : RdE w B A n zs) : Reads w B 4 A n (enc zs) := by
  refine ⟨by rw [enc_len, h.1], fun hn => ?_⟩
  obtain ⟨b, off, e, hl, hc⟩ := h.2 hn
  refine ⟨⟨b, off, none⟩, e, hl, fun j u hu => ?_⟩
  have hj : j < zs.length * 4 := by rw [← enc_len]; exact (List.getElem?_eq_some_iff.1 hu).1
  have hq : j / 4 < zs.length := by omega
  have hx : zs[j / 4]? = some zs[j / 4] := List.getElem?_eq_getElem hq
  have hg := enc_get zs (j / 4) _ hx
  have hcc := hc (j / 4) _ hx
  have hadd : (⟨b, off, none⟩ : Addr).add j = ⟨b, off + j, none⟩ := by
    unfold Addr.add; by_cases hk : j = 0
    · subst hk; rfl
    · simp [hk]
  rw [hadd]
  rcases (show j = j / 4 * 4 ∨ j = j / 4 * 4 + 1 ∨ j = j / 4 * 4 + 2 ∨ j = j / 4 * 4 + 3 by omega) with e | e | e | e
  · rw [e] at hu ⊢; rw [hg.1] at hu; injection hu with hu; rw [← hu]; exact hcc.1
  · rw [e] at hu ⊢; rw [hg.2.1] at hu; injection hu with hu; rw [← hu, ← Nat.add_assoc]; exact hcc.2.1
  · rw [e] at hu ⊢; rw [hg.2.2.1] at hu; injection hu with hu; rw [← hu, ← Nat.add_assoc]; exact hcc.2.2.1
  · rw [e] at hu ⊢; rw [hg.2.2.2] at hu; injection hu with hu; rw [← hu, ← Nat.add_assoc]; exact hcc.2.2.2
end

/-- v is a slice of entries of the call's own -/
abbrev OwE (w : World) (B : Nat) (v : Value) (zs : List En) : Prop := w.ownsRow B 34 4 v zs.length (enc zs)
section
variable {w w' : World} {B B' : Nat} {v : Value} {zs : List En}
/-- its form, its block told -/
theorem OwE.form (h : OwE w B v zs) : ∃ A c, v = .slice A zs.length c ∧ RdE w w.heap.size A zs.length zs ∧ zs.length ≤ c ∧ c ≤ 9223372036854775807 := by
  rcases h.2 with ⟨rfl, h0⟩ | ⟨g, cap, cur, rfl, hb, hh, hn, hm, hs, ht⟩
  · have hz : zs = [] := List.eq_nil_of_length_eq_zero h0
    subst hz
    exact ⟨none, 0, rfl, RdE.nil_ _, Nat.le_refl _, by omega⟩
  · refine ⟨_, cap, rfl, ⟨rfl, fun _ => ⟨g, 0, rfl, (h.lt g rfl).2, fun j x hx => ?_⟩⟩, hn, by unfold maxLen at hm; omega⟩
    have hx2 := enc_get zs j x hx
    have a0 : ∀ k, (⟨g, 0, none⟩ : Addr).add k = ⟨g, 0 + k, none⟩ := fun k => by
      unfold Addr.add; by_cases hk : k = 0
      · subst hk; rfl
      · simp [hk]
    have e0 := h.cells (g := g) rfl (j * 4) _ hx2.1
    have e1 := h.cells (g := g) rfl (j * 4 + 1) _ hx2.2.1
    have e2 := h.cells (g := g) rfl (j * 4 + 2) _ hx2.2.2.1
    have e3 := h.cells (g := g) rfl (j * 4 + 3) _ hx2.2.2.2
    rw [a0] at e0 e1 e2 e3
    exact ⟨e0, by rw [Nat.add_assoc]; exact e1, by rw [Nat.add_assoc]; exact e2, by rw [Nat.add_assoc]; exact e3⟩

theorem OwE.of_block (h : OwE w B v zs) (hb : ∀ g, v.ownBlock = some g → w'.heap[g]? = w.heap[g]?) : OwE w' B v zs := by
  refine ⟨h.1, ?_⟩
  rcases h.2 with hn | ⟨g, cap, cur, e, hl, hg, hr⟩
  · exact .inl hn
  · exact .inr ⟨g, cap, cur, e, hl, (hb g (by rw [e]; rfl)).trans hg, hr⟩

theorem OwE.below (h : OwE w B v zs) (hb : Below w.heap.size w w') : OwE w' B v zs := h.of_block fun g hg => hb.block g (h.lt g hg).2

theorem OwE.more (h : OwE w B v zs) (hB : B' ≤ B) : OwE w B' v zs := by
  refine ⟨h.1, ?_⟩
  rcases h.2 with hn | ⟨g, cap, cur, e, hb, hr⟩
  · exact .inl hn
  · exact .inr ⟨g, cap, cur, e, Nat.le_trans hB hb, hr⟩

theorem OwE.empty_lit (w : World) (hB : B ≤ w.heap.size) : OwE (w.alloc (.cells #[] 34)) B (.slice (some ⟨w.heap.size, 0, none⟩) 0 0) [] :=
  World.ownsRow_lit w #[] 0 hB (by decide) rfl
end

/-- One append of one entry: 'out = append(out, x)'. The literal's block lies already. -/
theorem wpList_appE {w : World} {ops : Array Oper} {rest : List Oper} {o : Oper} {a : Act} {Q : Exit → Act → World → Prop} (hgd : o.guard = none) (s x : Operand)
    (ho : o.op = .call { callee := .builtin .append, args := #[s, x], argTypes := #[23, 23] })
    (B : Nat) (m t k : Int) (f : Bool) (v : Value) (zs : List En) (hs : a.eval s = v) (hx : a.eval x = .slice (some ⟨w.heap.size, 0, none⟩) 1 1) (hown : OwE w B v zs) (hB : B ≤ w.heap.size) (hn : zs.length < 1099511627776)
    (h : ∀ v' w', OwE w' B v' (zs ++ [(m, (t, k), f)]) → (w.grownBy w' v.ownBlock) → wpList Try.prog ops Q rest (a.put o.dst v') w') :
    wpList Try.prog ops Q (o :: rest) a (w.alloc (.cells #[.int .i64 m, .int .i64 t, .int .i64 k, .bool f] 34)) := by
  obtain ⟨i0, hi, hz0, hz1, hz2⟩ := info_parts info_en
  refine wpList_append_own (P := Try.prog) _ hgd s x 23 ho B 34 i0 (.agg #[.int .i64 0, .int .i64 0, .int .i64 0, .bool false]) 4 32 Try.underlying23 hi hz0 hz1 hz2 rfl (by decide) v zs.length (enc zs) hs (hown.alloc _) ⟨w.heap.size, 0, none⟩ 1 1 [.int .i64 m, .int .i64 t, .int .i64 k, .bool f] hx rfl ?_ ?_ ?_ ?_ ?_ ?_
  · intro j u hj
    match j, hj with
    | 0, hj => simp at hj; subst hj; simp [Addr.add]
    | 1, hj => simp at hj; subst hj; simp [Addr.add]
    | 2, hj => simp at hj; subst hj; simp [Addr.add]
    | 3, hj => simp at hj; subst hj; simp [Addr.add]
  · intro u hu; simp at hu; rcases hu with rfl | rfl | rfl | rfl <;> rfl
  · unfold maxLen; omega
  · omega
  · simp; omega
  · intro v' w' hown' hg _
    refine h v' w' ?_ ?_
    · show w'.ownsRow B 34 4 v' (zs ++ [(m, (t, k), f)]).length (enc (zs ++ [(m, (t, k), f)]))
      rw [enc_app, List.length_append]
      exact hown'
    · exact ⟨hg.os, hg.tape, hg.output, by have := hg.size; simp at this; omega, fun i hi hne => (hg.block i (by simp; omega) hne).trans (Below.heap_alloc w _ i hi)⟩
end Go.Proofs.Ytbnmeedmeikepaa
