/-
  Slices of bools that a call owns; slices of transactions that are read. No condition.
-/
import Derived.Test.YteagmkhpfmiaiaaSoM
namespace Go.Proofs.Yteagmkhpfmiaiaa
open Go.RowKit
set_option linter.unusedVariables false
set_option linter.unusedSimpArgs false

theorem info_bl : (Try.prog.info? 4).map (fun i => (i.zero, i.size, i.bytes)) = some (some (.bool false), 1, 1) := by kernel_rfl

abbrev blv (bs : List Bool) : List Value := bs.map Value.bool

theorem blv_one (bs : List Bool) : ∀ u ∈ blv bs, u.oneCell' = true := by
  intro u hu
  obtain ⟨b, -, rfl⟩ := List.mem_map.1 hu
  rfl
/-- v is a slice of bools of the call's own -/
abbrev OwBl (w : World) (B : Nat) (v : Value) (bs : List Bool) : Prop := w.ownsRow B 4 1 v bs.length (blv bs)

abbrev RdBl (w : World) (B : Nat) (A : Option Addr) (n : Nat) (bs : List Bool) : Prop := Reads w B 1 A n (blv bs)
section
variable {w w' : World} {B B' n k : Nat} {v : Value} {A : Option Addr} {bs : List Bool}

theorem RdBl.len (h : RdBl w B A n bs) : bs.length = n := by have := h.1; simpa using this

theorem RdBl.at' (h : RdBl w B A n bs) (hk : k < n) : ∃ ad z, A = some ad ∧ Hid (bs.getD k false = z) ∧ w.cell? (ad.add k) = some (.bool z) := by
  obtain ⟨ad, e, _, hc⟩ := h.2 (by omega)
  have hl : k < bs.length := by have := h.len; omega
  refine ⟨ad, _, e, rfl, hc k _ ?_⟩
  simp [hl]

theorem OwBl.form (h : OwBl w B v bs) : ∃ A c, v = .slice A bs.length c ∧ RdBl w w.heap.size A bs.length bs := by
  rcases h.2 with ⟨rfl, h0⟩ | ⟨g, cap, cur, rfl, hrest⟩
  · have hz : bs = [] := List.eq_nil_of_length_eq_zero h0
    subst hz
    exact ⟨none, 0, rfl, Reads.none_⟩
  · exact ⟨_, cap, rfl, Reads.of_own (c := cap) h⟩

theorem OwBl.of_block (h : OwBl w B v bs) (hb : ∀ g, v.ownBlock = some g → w'.heap[g]? = w.heap[g]?) : OwBl w' B v bs := by
  refine ⟨h.1, ?_⟩
  rcases h.2 with hn | ⟨g, cap, cur, e, hl, hg, hr⟩
  · exact .inl hn
  · exact .inr ⟨g, cap, cur, e, hl, (hb g (by rw [e]; rfl)).trans hg, hr⟩

theorem OwBl.step (h : OwBl w B v bs) (hb : Below w.heap.size w w') : OwBl w' B v bs := h.of_block fun g hg => hb.block g (h.lt g hg).2

theorem OwBl.kp {S : Nat → Prop} (h : OwBl w B v bs) (hk : Kp S w w') (hS : ∀ b, v.ownBlock = some b → ¬ S b) : OwBl w' B v bs := h.of_block fun g hg => hk.block g (h.lt g hg).2 (hS g hg)

theorem OwBl.alloc (h : OwBl w B v bs) (o : Obj) : OwBl (w.alloc o) B v bs := h.step (below1 w o)

theorem OwBl.drew (h : OwBl w B v bs) : OwBl w.drew B v bs := h

theorem OwBl.more (h : OwBl w B v bs) (hB : B' ≤ B) : OwBl w B' v bs := by
  refine ⟨h.1, ?_⟩
  rcases h.2 with hn | ⟨g, cap, cur, e, hb, hr⟩
  · exact .inl hn
  · exact .inr ⟨g, cap, cur, e, Nat.le_trans hB hb, hr⟩

theorem OwBl.empty (w : World) (hB : B ≤ w.heap.size) : OwBl (w.alloc (.cells #[] 4)) B (.slice (some ⟨w.heap.size, 0, none⟩) 0 0) [] :=
  World.ownsRow_lit w #[] 0 hB (by decide) rfl

theorem OwBl.empty' {b : Nat} (hw : w.heap.size = b) (hB : B ≤ b) : OwBl (w.alloc (.cells #[] 4)) B (.slice (some ⟨b, 0, none⟩) 0 0) [] := by subst hw; exact OwBl.empty w hB

theorem OwI.emptyS {b : Nat} (hw : w.heap.size = b) (hB : B ≤ b) : OwI (w.alloc (.cells #[] 3)) B (.slice (some ⟨b, 0, none⟩) 0 0) [] := by subst hw; exact OwI.empty_lit w hB
end

/-- One append of one bool: 'out = append(out, b)'. The literal's block lies already. -/
theorem wpList_appBl {w : World} {ops : Array Oper} {rest : List Oper} {o : Oper} {a : Act} {Q : Exit → Act → World → Prop} (hgd : o.guard = none) (s x : Operand)
    (ho : o.op = .call { callee := .builtin .append, args := #[s, x], argTypes := #[46, 46] })
    (B : Nat) (z : Bool) (v : Value) (bs : List Bool) (hs : a.eval s = v) (hx : a.eval x = .slice (some ⟨w.heap.size, 0, none⟩) 1 1) (hown : OwBl w B v bs) (hB : B ≤ w.heap.size) (hn : bs.length < 1099511627776)
    (h : ∀ v' w', OwBl w' B v' (bs ++ [z]) → w.grownBy w' v.ownBlock → wpList Try.prog ops Q rest (a.put o.dst v') w') :
    wpList Try.prog ops Q (o :: rest) a (w.alloc (.cells #[.bool z] 4)) := by
  obtain ⟨i0, hi, hz0, hz1, hz2⟩ := info_parts info_bl
  refine wpList_append_own (P := Try.prog) _ hgd s x 46 ho B 4 i0 (.bool false) 1 1 Try.underlying46 hi hz0 hz1 hz2 rfl (by decide) v bs.length (blv bs) hs (hown.alloc _) ⟨w.heap.size, 0, none⟩ 1 1 [.bool z] hx rfl ?_ ?_ ?_ ?_ ?_ ?_
  · intro j u hj
    match j, hj with
    | 0, hj => simp at hj; subst hj; simp [Addr.add]
  · intro u hu; simp at hu; subst hu; rfl
  · unfold maxLen; omega
  · omega
  · simp; omega
  · intro v' w' hown' hg _
    refine h v' w' ?_ ?_
    · show w'.ownsRow B 4 1 v' (bs ++ [z]).length (blv (bs ++ [z]))
      simpa [blv] using hown'
    · exact (World.grownBy_alloc w _ _).andThen hg (fun j hj => .inr hj)

/-- '.slice A n c' reads as the transactions ts -/
def RdX (w : World) (A : Option Addr) (n : Nat) (ts : List Tx) : Prop :=
  ts.length = n ∧ ∀ j t, ts[j]? = some t → ∃ b off A1 n1 c1 A2 n2 c2, A = some ⟨b, off, none⟩ ∧ b < w.heap.size ∧ w.cell? ⟨b, off + j * 3, none⟩ = some (.slice A1 n1 c1) ∧ w.cell? ⟨b, off + j * 3 + 1, none⟩ = some (.int .i64 t.need) ∧
    w.cell? ⟨b, off + j * 3 + 2, none⟩ = some (.slice A2 n2 c2) ∧ RdT w A1 n1 A2 n2 t
section
variable {w w' : World} {A : Option Addr} {n k : Nat} {ts : List Tx}

theorem RdX.len (h : RdX w A n ts) : ts.length = n := h.1

theorem RdX.step (h : RdX w A n ts) (hb : Below w.heap.size w w') : RdX w' A n ts := ⟨h.1, fun j t ht => by
  obtain ⟨b, off, A1, n1, c1, A2, n2, c2, e, hl, h0, h1, h2, hr⟩ := h.2 j t ht
  exact ⟨b, off, A1, n1, c1, A2, n2, c2, e, Nat.lt_of_lt_of_le hl hb.size, (hb.cell hl).trans h0, (hb.cell hl).trans h1, (hb.cell hl).trans h2, hr.step hb⟩⟩

theorem RdX.at_ (h : RdX w A n ts) (hk : k < n) : ∃ t b off A1 n1 c1 A2 n2 c2 nd, Hid (ts[k]? = some t) ∧ Hid (t.need = nd) ∧ A = some ⟨b, off, none⟩ ∧ b < w.heap.size ∧ w.cell? ⟨b, off + k * 3, none⟩ = some (.slice A1 n1 c1) ∧ w.cell? ⟨b, off + k * 3 + 1, none⟩ = some (.int .i64 nd) ∧
    w.cell? ⟨b, off + k * 3 + 2, none⟩ = some (.slice A2 n2 c2) ∧ Hid (RdT w A1 n1 A2 n2 t) := by
  have hl : k < ts.length := by rw [h.1]; exact hk
  have hx : ts[k]? = some ts[k] := List.getElem?_eq_getElem hl
  obtain ⟨b, off, A1, n1, c1, A2, n2, c2, e, hb, h0, h1, h2, hr⟩ := h.2 k _ hx
  exact ⟨ts[k], b, off, A1, n1, c1, A2, n2, c2, _, hx, rfl, e, hb, h0, h1, h2, hr⟩
end
end Go.Proofs.Yteagmkhpfmiaiaa
