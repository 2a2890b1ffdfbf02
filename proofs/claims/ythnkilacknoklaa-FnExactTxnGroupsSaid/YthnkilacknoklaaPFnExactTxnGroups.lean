/-
  The law FnExactTxnGroups returns true for every input, and each argument reads afterwards as it read before. No condition.
-/
import Derived.Test.YthnkilacknoklaaRows
import Derived.WalkKit
import Derived.ProofKit
import Derived.OpenShut
import Derived.ShutString
import Derived.ChangeOld
import Derived.Below
import Derived.Lib.SmallJoins
import Derived.Deep.Slices
import Derived.Test.YthnkilacknoklaaFrameSv
import Derived.Test.YthnkilacknoklaaSvC
namespace Go.Proofs.Ythnkilacknoklaa.fnExactTxnGroups
open Go.ChangeShapes Go.WideShapes Go.ChangeAt Go.RowKit Go.Deep Go.Joins
set_option linter.unusedVariables false

theorem own : ownKnob Try.prog.godebug = none := by kernel_rfl
theorem laidOut : laidOutB Try.prog = true := by kernel_rfl
theorem cellsT : Try.prog.cellsOf 28 = 3 := by kernel_rfl

/-! ### the walk -/
theorem walk (i0 : Int) (A0 : Option Addr) (nA0 cA0 : Nat) (B0 : Option Addr) (nB0 cB0 : Nat) (P0 : List Int) (D0 : List (Int × Int)) (w : World) (w0 : RdI w w.heap.size A0 nA0 P0) (u0 : nA0 ≤ maxLen) (x0 : RdPA w B0 nB0 D0) (y0 : nB0 ≤ maxLen) :
    Calls Try.prog 5 #[.agg #[.slice A0 nA0 cA0, .int .i64 i0, .slice B0 nB0 cB0]] w fun e w' => e = .returned (.bool true) ∧ Below w.heap.size w w' := by
  exact exTxnGroups i0 w w0 u0 x0 y0

/-! ### the row's step -/
set_option maxRecDepth 100000 in
theorem lifted (os : Os) (started : os.Started) (H : Type) (enc : TypeId × Value → H) :
    ReturnsInHanded {} Try.checked os 5 .any (Rows.fnExactTxnGroupsSpec.pre6 enc Try.prog Try.f5 Rows.fnExactTxnGroupsRow.domain false) (Rows.fnExactTxnGroupsSpec.post enc Try.prog Try.f5 false true false false) := by
  refine returnsInHanded_of_change (C := Try.checked) own started (by kernel_rfl) Try.func5
    (ChangeSpec.witness6 (enc := enc) (C := Try.checked) false ⟨#[], #[.agg #[.slice none 0 0, .int .i64 0, .slice none 0 0]], []⟩ 8 (by kernel_rfl) (by kernel_rfl) (by kernel_rfl) (by kernel_rfl)) ?_
  intro W base args ds gs before hval0 hW hcnd _
  have hval : ∀ (j : Nat) t v, Try.f5.params[j]? = some t → args[j]? = some v → Value.okWide Try.prog W .any base t v := hval0
  have hW' := hW
  obtain ⟨p, q, hA0, hV, rfl, hfz, hnd⟩ := hW
  have hA : DataW.TrodAll enc Try.prog W 0 (fun _ => true) true Try.f5.params.toList args.toList ds p := hA0
  rw [Try.params5] at hA hval
  obtain ⟨v0, vs0, d0, ds0, p0, q0, hargs, rfl, rfl, h0, r0⟩ := trodAll_cons hA
  obtain ⟨rfl, rfl, rfl⟩ := trodAll_nil r0
  obtain rfl : args = #[v0] := by cases args; simp_all
  obtain ⟨rfl, rfl⟩ := trodVars_none hV
  have k0 := h0
  have lt0 : ∀ x ∈ p0, x.block < W.heap.size := by obtain ⟨m, hm⟩ := k0; exact DataW.trod_lt m _ _ _ hm
  obtain ⟨e0c, e0a, e0d, z0c, z0a, z0d, m0, rfl, _, _, t0c, t0a, t0d⟩ := open_agg3 Try.underlying28 (by kernel_rfl) cellsT (hval 0 28 v0 rfl rfl) h0
  obtain ⟨i0, ea0, _, _⟩ := DataW.trod_int Try.underlying3 t0a
  obtain ⟨A0, nA0, cA0, P0, rfl, w0, u0⟩ := open_gsT t0c
  obtain ⟨B0, nB0, cB0, D0, rfl, x0, y0⟩ := open_putsT t0d
  injection ea0 with ea0
  subst ea0
  clear hA0 hval0
  refine (walk i0 A0 nA0 cA0 B0 nB0 cB0 P0 D0 W w0 u0 x0 y0).mono fun e W' ⟨he, bel⟩ => ?_
  subst he
  exact ⟨_, rfl, _, _, _, [], _, [], hW', trodAll_mk1 (shut_bool Try.underlying4 _), (trodAll_cons_mk (Below.trod laidOut (by kernel_rfl) (of_decide_eq_true (by kernel_rfl)) k0 bel lt0) trodAll_mk0), rfl, bel.frame _, fun h => by cases h⟩

theorem over : Rows.fnExactTxnGroupsRow.holds Try.pinned (OpenSpec.ofChange Rows.fnExactTxnGroupsSpec) :=
  OpenClaim.holds_of_wide 5 Try.f5 rfl rfl rfl rfl rfl rfl rfl ⟨rfl, rfl, rfl, rfl, rfl⟩ rfl rfl rfl rfl rfl (by kernel_rfl) Try.func5 (by kernel_rfl)
    (of_decide_eq_true (by kernel_rfl)) (by unfold Func.isWrapper; first | (rw [if_pos (by decide +kernel)]; kernel_rfl) | (rw [if_neg (by decide +kernel)]; exact ⟨rfl, rfl⟩))
    (fun os started H enc _ => lifted os started H enc)

/-- the statement -/
theorem proved : Rows.FnExactTxnGroupsSaid := over
#print axioms proved
end Go.Proofs.Ythnkilacknoklaa.fnExactTxnGroups
