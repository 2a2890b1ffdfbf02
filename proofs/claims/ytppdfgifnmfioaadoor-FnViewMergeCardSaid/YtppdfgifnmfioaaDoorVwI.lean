/-
  errors.Is at the program's own sentinels: of nil, and of the sentinel itself; what a sentinel variable holds. No condition.
-/
import Derived.Test.YtppdfgifnmfioaaDoorMgA
import Derived.LaidEql
import Derived.Stop.Asserts
import Derived.RowKitTokens
namespace Go.Proofs.YtppdfgifnmfioaaDoor
open Go.RowKit Go.Extern.Stop Go.Stop Go.Extern
set_option linter.unusedVariables false

/-- the error at a -/
abbrev snV (a : Addr) : Value := .iface 86 (.pointer (some a))
/-- the package variable g holds an error that is a pointer -/
def Sn (w : World) (g : Nat) (a : Addr) : Prop := w.cell? ⟨g, 0, none⟩ = some (snV a)

theorem Sn.below {w w' : World} {g : Nat} {a : Addr} (h : Sn w g a) (hb : Below w.heap.size w w') : Sn w' g a :=
  (hb.cell (p := ⟨g, 0, none⟩) (World.block_lt_of_cell? w _ h)).trans h

theorem Sn.lt {w : World} {g : Nat} {a : Addr} (h : Sn w g a) : g < w.heap.size := World.block_lt_of_cell? w _ h

theorem is_typeOf (v : Value) (w : World) : (Extern.ReflectliteType.typeOf #[.iface 86 v]).run Tryd.prog w = .ok (.iface 76 (.agg #[.pointer (some ⟨3, 86, none⟩)])) w := by kernel_rfl

theorem is_comparable (w : World) : (callFunc 74 #[.agg #[.pointer (some ⟨3, 86, none⟩)]]).run Tryd.prog w = .ok (.value (.bool true)) w := by
  rw [@run_callFunc_extern Tryd.prog 74 _ (Extern.ReflectliteType.method fun t => do Extern.Rtype.noPackHeld "Comparable" t; pure (.bool (← typeInfo t).comparable)) Tryd.func74 (by kernel_rfl) (by kernel_rfl) (by kernel_rfl) (by kernel_rfl)]
  kernel_rfl

theorem is_method (v : Value) (w : World) : (Go.method 224 76 v "Comparable").run Tryd.prog w = .ok (74, v) w := by kernel_rfl

theorem is_comp : (Tryd.prog.info? 86).map (·.comparable) = some true := by kernel_rfl

theorem is_size : (Tryd.prog.info? 112).map (·.size) = some 1 := by kernel_rfl

set_option maxHeartbeats 1000000 in
theorem is_same (a : Addr) (w : World) :
    Calls Tryd.prog 38 #[snV a, snV a] w fun e w' => e = .returned (.bool true) ∧ w = w' := by
  obtain ⟨i, hi, hcmp⟩ := Option.map_eq_some_iff.1 is_comp
  obtain ⟨j, hj, hjs⟩ := Option.map_eq_some_iff.1 is_size
  have h8 := @run_callFunc_extern Tryd.prog 50 _ Extern.ReflectliteType.typeOf Tryd.func50 (by kernel_rfl) (by kernel_rfl) (by kernel_rfl) (by kernel_rfl)
  have tT := is_typeOf
  have cT := is_comparable
  have mR := is_method
  have heq := run_eql_iface_ptr_same (P := Tryd.prog) w a Tryd.underlying50 Tryd.underlying86 hi hcmp hj
  go_enter Tryd.func38, Tryd.ntmps38
  go_wp2
  refine wp_loop_rounds 1 ?_
  rw [rounds_succ]
  go_wp2
  go_ret
  exact ⟨rfl, rfl⟩

set_option maxHeartbeats 1000000 in
theorem is_nil (b : Addr) (w : World) :
    Calls Tryd.prog 38 #[.nilIface, snV b] w fun e w' => e = .returned (.bool false) ∧ w = w' := by
  have hn := run_eql_iface_nil_left (P := Tryd.prog) w 86 (.pointer (some b)) Tryd.underlying50
  go_enter Tryd.func38, Tryd.ntmps38
  go_wp2
  go_ret
  exact ⟨rfl, rfl⟩
/-- an error that is nil, or the very error: what errors.Is says -/
def erV (b : Bool) (a : Addr) : Value := if b then snV a else .nilIface

theorem is_er (b : Bool) (a : Addr) (w : World) : Calls Tryd.prog 38 #[erV b a, snV a] w fun e w' => e = .returned (.bool b) ∧ w = w' := by
  cases b
  · exact is_nil a w
  · exact is_same a w
end Go.Proofs.YtppdfgifnmfioaaDoor
