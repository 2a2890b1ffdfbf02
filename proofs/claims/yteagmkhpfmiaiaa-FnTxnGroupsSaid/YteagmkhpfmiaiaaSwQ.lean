/-
  The transaction that is being drawn. No condition.
-/
import Derived.Test.YteagmkhpfmiaiaaSwA
import Derived.Test.YteagmkhpfmiaiaaSwP
import Derived.Test.YteagmkhpfmiaiaaSvB
namespace Go.Proofs.Yteagmkhpfmiaiaa
open Go.RowKit
set_option linter.unusedVariables false
set_option linter.unusedSimpArgs false

theorem ne_rows {w : World} {lo lo' : Nat} {R Pv : Value} {gs : List Int} {xs : List (Int × Int)} (h : OwI w lo R gs) (k : OwP w lo' Pv xs) : ∀ b, R.ownBlock = some b → Pv.ownBlock ≠ some b := by
  intro b hb
  rcases h.2 with ⟨rfl, _⟩ | ⟨g, cap, cur, rfl, _, hg, _⟩
  · cases hb
  · injection hb with hb
    simp only at hb
    subst hb
    exact cs_type (cs := cur) hg k (by decide)
/-- the transaction that is being drawn: its box, the result's box, its rows, the reader -/
structure Dt (w wr : World) (B g P xb : Nat) (R : Value) (m : Int) (Pv : Value) (gs : List Int) (xs : List (Int × Int)) : Prop where
  cs : Cs wr xb 26 #[R, .int .i64 m, Pv]
  rs : Cs wr w.heap.size 26 #[.slice none 0 0, .int .i64 0, .slice none 0 0]
  oi : OwI wr (w.heap.size + 1) R gs
  op : OwP wr (w.heap.size + 1) Pv xs
  lo : w.heap.size < xb
  dg : Dg w wr B g P
section
variable {w wr w' : World} {B g P Q xb : Nat} {R R' Pv Pv' : Value} {m : Int} {gs gs' : List Int} {xs xs' : List (Int × Int)}

theorem Dt.below (h : Dt w wr B g P xb R m Pv gs xs) (hl : g < w.heap.size) (hb : Below wr.heap.size wr w') : Dt w w' B g P xb R m Pv gs xs :=
  ⟨h.cs.step hb, h.rs.step hb, h.oi.stepS hb, h.op.below hb, h.lo, h.dg.below hl (hb.mono h.dg.size)⟩

theorem Dt.pick (h : Dt w wr B g P xb R m Pv gs xs) (hl : g < w.heap.size) (hg : wr.grownBy w' (some g)) (hr : Rdr w' B g Q) : Dt w w' B g Q xb R m Pv gs xs := by
  have := h.lo
  exact ⟨grown_cs h.cs hg (fun e => by injection e with e; omega), grown_cs h.rs hg (fun e => by injection e with e; omega), h.oi.pick hg (by omega), h.op.pick hg (by omega), h.lo, h.dg.pick hg hr⟩

theorem Dt.le (h : Dt w wr B g P xb R m Pv gs xs) (hq : P ≤ Q) : Dt w wr B g Q xb R m Pv gs xs := ⟨h.cs, h.rs, h.oi, h.op, h.lo, h.dg.le hq⟩

theorem Dt.room (h : Dt w wr B g P xb R m Pv gs xs) : w.heap.size + 1 ≤ wr.heap.size := by have := h.lo; have := h.cs.lt; omega
/-- the need stored -/
theorem Dt.putM (h : Dt w wr B g P xb R m Pv gs xs) (hl : g < w.heap.size) (y : Int) : Dt w (wr.setCell ⟨xb, 1, none⟩ (.int .i64 y)) B g P xb R y Pv gs xs := by
  have hlo := h.lo
  have h1 := cs_type h.cs h.oi (by decide)
  have h2 := cs_type h.cs h.op (by decide)
  exact ⟨h.cs.set 1 (.int .i64 y), h.rs.far (p := ⟨xb, 1, none⟩) (by simp; omega) _, h.oi.setFar (p := ⟨xb, 1, none⟩) h1 _, h.op.setFar (p := ⟨xb, 1, none⟩) h2 _, hlo, h.dg.far hl (p := ⟨xb, 1, none⟩) (Nat.le_of_lt hlo) _⟩
/-- behind an append to the reads: what lies aside -/
theorem Dt.keepR (h : Dt w wr B g P xb R m Pv gs xs) (hl : g < w.heap.size) (hg : wr.grownBy w' R.ownBlock) : Cs w' xb 26 #[R, .int .i64 m, Pv] ∧ Cs w' w.heap.size 26 #[.slice none 0 0, .int .i64 0, .slice none 0 0] ∧ OwP w' (w.heap.size + 1) Pv xs ∧ Dg w w' B g P := by
  have hlo := h.lo
  refine ⟨grown_cs h.cs hg (fun e => cs_type h.cs h.oi (by decide) e), grown_cs h.rs hg (fun e => by have := (h.oi.lt _ e).1; omega), h.op.of_block fun k hk => hg.block k (h.op.lt k hk).2 (fun e => ne_rows h.oi h.op k e.symm hk), h.dg.own hl hg (fun k hk => by have := (h.oi.lt k hk).1; omega)⟩

theorem Dt.keepP (h : Dt w wr B g P xb R m Pv gs xs) (hl : g < w.heap.size) (hg : wr.grownBy w' Pv.ownBlock) : Cs w' xb 26 #[R, .int .i64 m, Pv] ∧ Cs w' w.heap.size 26 #[.slice none 0 0, .int .i64 0, .slice none 0 0] ∧ OwI w' (w.heap.size + 1) R gs ∧ Dg w w' B g P := by
  have hlo := h.lo
  refine ⟨grown_cs h.cs hg (fun e => cs_type h.cs h.op (by decide) e), grown_cs h.rs hg (fun e => by have := (h.op.lt _ e).1; omega), own_of_block h.oi fun k hk => hg.block k (h.oi.lt k hk).2 (fun e => ne_rows h.oi h.op k hk e.symm), h.dg.own hl hg (fun k hk => by have := (h.op.lt k hk).1; omega)⟩

theorem Dt.appR (h : Dt w wr B g P xb R m Pv gs xs) (hl : g < w.heap.size) (hg : wr.grownBy w' R.ownBlock) (ho : OwI w' (w.heap.size + 1) R' gs') : Dt w (w'.setCell ⟨xb, 0, none⟩ R') B g P xb R' m Pv gs' xs := by
  obtain ⟨c1, c2, c3, c4⟩ := h.keepR hl hg
  have hlo := h.lo
  exact ⟨c1.set 0 R', c2.far (p := ⟨xb, 0, none⟩) (by simp; omega) _, ho.setFar (p := ⟨xb, 0, none⟩) (cs_type c1 ho (by decide)) _, c3.setFar (p := ⟨xb, 0, none⟩) (cs_type c1 c3 (by decide)) _, hlo, c4.far hl (p := ⟨xb, 0, none⟩) (Nat.le_of_lt hlo) _⟩

theorem Dt.appP (h : Dt w wr B g P xb R m Pv gs xs) (hl : g < w.heap.size) (hg : wr.grownBy w' Pv.ownBlock) (ho : OwP w' (w.heap.size + 1) Pv' xs') : Dt w (w'.setCell ⟨xb, 2, none⟩ Pv') B g P xb R m Pv' gs xs' := by
  obtain ⟨c1, c2, c3, c4⟩ := h.keepP hl hg
  have hlo := h.lo
  exact ⟨c1.set 2 Pv', c2.far (p := ⟨xb, 2, none⟩) (by simp; omega) _, c3.setFar (p := ⟨xb, 2, none⟩) (cs_type c1 c3 (by decide)) _, ho.setFar (p := ⟨xb, 2, none⟩) (cs_type c1 ho (by decide)) _, hlo, c4.far hl (p := ⟨xb, 2, none⟩) (Nat.le_of_lt hlo) _⟩
/-- behind the return by the result's box -/
theorem Dt.ret (h : Dt w wr B g P xb R m Pv gs xs) (hl : g < w.heap.size) {W : World} (hW : ((wr.setCell ⟨w.heap.size, 0, none⟩ R).setCell ⟨w.heap.size, 1, none⟩ (.int .i64 m)).setCell ⟨w.heap.size, 2, none⟩ Pv = W) :
    Cs W w.heap.size 26 #[R, .int .i64 m, Pv] ∧ OwI W w.heap.size R gs ∧ OwP W w.heap.size Pv xs ∧ Dg w W B g P := by
  subst hW
  refine ⟨h.rs.set3T _ _ _, ?_, ?_, ?_⟩
  · exact (((h.oi.setLow (p := ⟨w.heap.size, 0, none⟩) (by simp) R).setLow (p := ⟨w.heap.size, 1, none⟩) (by simp) (.int .i64 m)).setLow (p := ⟨w.heap.size, 2, none⟩) (by simp) Pv).more (Nat.le_succ _)
  · exact (((h.op.setLow (p := ⟨w.heap.size, 0, none⟩) (by simp) R).setLow (p := ⟨w.heap.size, 1, none⟩) (by simp) (.int .i64 m)).setLow (p := ⟨w.heap.size, 2, none⟩) (by simp) Pv).more (Nat.le_succ _)
  · exact ((h.dg.far hl (p := ⟨w.heap.size, 0, none⟩) (Nat.le_refl _) _).far hl (p := ⟨w.heap.size, 1, none⟩) (Nat.le_refl _) _).far hl (p := ⟨w.heap.size, 2, none⟩) (Nat.le_refl _) _

theorem Dt.form (h : Dt w wr B g P xb R m Pv gs xs) : ∃ A1 c1 A2 c2, R = .slice A1 gs.length c1 ∧ Pv = .slice A2 xs.length c2 := by
  obtain ⟨A1, c1, e1, _⟩ := h.oi.form
  obtain ⟨A2, c2, e2, _⟩ := h.op.form
  exact ⟨A1, c1, A2, c2, e1, e2⟩
end

theorem lit4 {w : World} {b : Nat} {x0 x1 x2 x3 : Int} (h : Cs w b 3 #[.int .i64 x0, .int .i64 x1, .int .i64 x2, .int .i64 x3]) {j : Nat} (hj : j < 4) : ∃ z, w.cell? ⟨b, j, none⟩ = some (.int .i64 z) := by
  rw [h.cell]
  have : j = 0 ∨ j = 1 ∨ j = 2 ∨ j = 3 := by omega
  rcases this with rfl | rfl | rfl | rfl <;> exact ⟨_, rfl⟩
/-- a transaction that was drawn -/
def TPost (B g Q : Nat) (w : World) (e : Ending) (w' : World) : Prop :=
  ∃ (A1 A2 : Option Addr) (c1 c2 : Nat) (m : Int) (gs : List Int) (xs : List (Int × Int)), e = .returned (txV (.slice A1 gs.length c1) m (.slice A2 xs.length c2)) ∧ OwI w' w.heap.size (.slice A1 gs.length c1) gs ∧ OwP w' w.heap.size (.slice A2 xs.length c2) xs ∧ gs.length ≤ 16 ∧ xs.length ≤ 16 ∧ Dg w w' B g Q

end Go.Proofs.Yteagmkhpfmiaiaa
