/-
  The law FnExactTxnApply returns true for every input, and each argument reads afterwards as it read before. No condition.
-/
import Derived.Test.YthnkilacknoklaaRows
import Derived.WalkKit
import Derived.ProofKit
import Derived.OpenShut
import Derived.ShutString
import Derived.ChangeOld
import Derived.Below
import Derived.Lib.SmallJoins
import Derived.Deep.Slices
import Derived.Test.YthnkilacknoklaaFrameSv
import Derived.Test.YthnkilacknoklaaSvD
namespace Go.Proofs.Ythnkilacknoklaa.fnExactTxnApply
open Go.ChangeShapes Go.WideShapes Go.ChangeAt Go.RowKit Go.Deep Go.Joins
set_option linter.unusedVariables false

theorem own : ownKnob Try.prog.godebug = none := by kernel_rfl
theorem laidOut : laidOutB Try.prog = true := by kernel_rfl
theorem cellsT : Try.prog.cellsOf 28 = 3 := by kernel_rfl

/-! ### the walk -/
theorem walk (A0 : Option Addr) (l0 c0 : Nat) (P0 : List Int) (i1 : Int) (A1 : Option Addr) (nA1 cA1 : Nat) (B1 : Option Addr) (nB1 cB1 : Nat) (P1 : List Int) (D1 : List (Int × Int)) (w : World) (w0 : RdI w w.heap.size A0 l0 P0) (u0 : l0 ≤ maxLen) (w1 : RdI w w.heap.size A1 nA1 P1) (u1 : nA1 ≤ maxLen) (x1 : RdPA w B1 nB1 D1) (y1 : nB1 ≤ maxLen) :
    Calls Try.prog 6 #[.slice A0 l0 c0, .agg #[.slice A1 nA1 cA1, .int .i64 i1, .slice B1 nB1 cB1]] w fun e w' => e = .returned (.bool true) ∧ Below w.heap.size w w' := by
  exact exTxnApply i1 w w0 u0 w1 u1 x1 y1

/-! ### the row's step -/
set_option maxRecDepth 100000 in
theorem lifted (os : Os) (started : os.Started) (H : Type) (enc : TypeId × Value → H) :
    ReturnsInHanded {} Try.checked os 6 .any (Rows.fnExactTxnApplySpec.pre6 enc Try.prog Try.f6 Rows.fnExactTxnApplyRow.domain false) (Rows.fnExactTxnApplySpec.post enc Try.prog Try.f6 false true false false) := by
  refine returnsInHanded_of_change (C := Try.checked) own started (by kernel_rfl) Try.func6
    (ChangeSpec.witness6 (enc := enc) (C := Try.checked) false ⟨#[], #[.slice none 0 0, .agg #[.slice none 0 0, .int .i64 0, .slice none 0 0]], []⟩ 8 (by kernel_rfl) (by kernel_rfl) (by kernel_rfl) (by kernel_rfl)) ?_
  intro W base args ds gs before hval0 hW hcnd _
  have hval : ∀ (j : Nat) t v, Try.f6.params[j]? = some t → args[j]? = some v → Value.okWide Try.prog W .any base t v := hval0
  have hW' := hW
  obtain ⟨p, q, hA0, hV, rfl, hfz, hnd⟩ := hW
  have hA : DataW.TrodAll enc Try.prog W 0 (fun _ => true) true Try.f6.params.toList args.toList ds p := hA0
  rw [Try.params6] at hA hval
  obtain ⟨v0, vs0, d0, ds0, p0, q0, hargs, rfl, rfl, h0, r0⟩ := trodAll_cons hA
  obtain ⟨v1, vs1, d1, ds1, p1, q1, rfl, rfl, rfl, h1, r1⟩ := trodAll_cons r0
  obtain ⟨rfl, rfl, rfl⟩ := trodAll_nil r1
  obtain rfl : args = #[v0, v1] := by cases args; simp_all
  obtain ⟨rfl, rfl⟩ := trodVars_none hV
  have k0 := h0
  have lt0 : ∀ x ∈ p0, x.block < W.heap.size := by obtain ⟨m, hm⟩ := k0; exact DataW.trod_lt m _ _ _ hm
  obtain ⟨fu0, hf0⟩ := h0
  obtain ⟨A0, l0, c0, rfl⟩ := okWide_slice Try.underlying22 (hval 0 22 v0 rfl rfl)
  obtain ⟨A0', l0', c0', P0, ev0, w0, u0⟩ := open_gsT (v := .slice A0 l0 c0) hf0
  injection ev0 with e1 e2 e3
  subst e1; subst e2; subst e3
  have k1 := h1
  have lt1 : ∀ x ∈ p1, x.block < W.heap.size := by obtain ⟨m, hm⟩ := k1; exact DataW.trod_lt m _ _ _ hm
  obtain ⟨e1c, e1a, e1d, z1c, z1a, z1d, m1, rfl, _, _, t1c, t1a, t1d⟩ := open_agg3 Try.underlying28 (by kernel_rfl) cellsT (hval 1 28 v1 rfl rfl) h1
  obtain ⟨i1, ea1, _, _⟩ := DataW.trod_int Try.underlying3 t1a
  obtain ⟨A1, nA1, cA1, P1, rfl, w1, u1⟩ := open_gsT t1c
  obtain ⟨B1, nB1, cB1, D1, rfl, x1, y1⟩ := open_putsT t1d
  injection ea1 with ea1
  subst ea1
  clear hA0 hval0
  refine (walk A0 l0 c0 P0 i1 A1 nA1 cA1 B1 nB1 cB1 P1 D1 W w0 u0 w1 u1 x1 y1).mono fun e W' ⟨he, bel⟩ => ?_
  subst he
  exact ⟨_, rfl, _, _, _, [], _, [], hW', trodAll_mk1 (shut_bool Try.underlying4 _), (trodAll_cons_mk (Below.trod laidOut (by kernel_rfl) (of_decide_eq_true (by kernel_rfl)) k0 bel lt0) (trodAll_cons_mk (Below.trod laidOut (by kernel_rfl) (of_decide_eq_true (by kernel_rfl)) k1 bel lt1) trodAll_mk0)), rfl, bel.frame _, fun h => by cases h⟩

theorem over : Rows.fnExactTxnApplyRow.holds Try.pinned (OpenSpec.ofChange Rows.fnExactTxnApplySpec) :=
  OpenClaim.holds_of_wide 6 Try.f6 rfl rfl rfl rfl rfl rfl rfl ⟨rfl, rfl, rfl, rfl, rfl⟩ rfl rfl rfl rfl rfl (by kernel_rfl) Try.func6 (by kernel_rfl)
    (of_decide_eq_true (by kernel_rfl)) (by unfold Func.isWrapper; first | (rw [if_pos (by decide +kernel)]; kernel_rfl) | (rw [if_neg (by decide +kernel)]; exact ⟨rfl, rfl⟩))
    (fun os started H enc _ => lifted os started H enc)

/-- the statement -/
theorem proved : Rows.FnExactTxnApplySaid := over
#print axioms proved
end Go.Proofs.Ythnkilacknoklaa.fnExactTxnApply
