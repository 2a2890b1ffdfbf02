/-
  The methods of the program's heap as the library calls them. No condition but lengths below 2^40.
-/
import Derived.Test.YtbnmeedmeikepaaGmK
namespace Go.Proofs.Ytbnmeedmeikepaa
open Go.RowKit
set_option linter.unusedVariables false
set_option linter.unusedSimpArgs false

theorem run_wrapChk (ts : Array TypeId) (t : TypeId) (a : Addr) (x nm : String) (w : World) : (Builtin.ssaWrapNilChk_ ts t #[.pointer (some a), strVal x, strVal nm]).run Try.prog w = .ok (.pointer (some a)) w := rfl

theorem meth_Len {hb n c : Nat} {A : Option Addr} {w : World} (hc : w.cell? ⟨hb, 0, none⟩ = some (.slice A n c)) :
    (method 207 58 (.pointer (some ⟨hb, 0, none⟩)) "Len").run Try.prog w = .ok (48, .slice A n c) w := by
  have hm : Array.find? (fun x => x.name == "Len") Try.t58.methods = some ⟨"Len", 78, #[], some (48, false)⟩ := by kernel_rfl
  rw [method]
  simp [go_sem, hm, follow, receiverAt, Place.get, hc, run_wrapChk, loadVar]

theorem meth_Less {hb n c : Nat} {A : Option Addr} {w : World} (hc : w.cell? ⟨hb, 0, none⟩ = some (.slice A n c)) :
    (method 207 58 (.pointer (some ⟨hb, 0, none⟩)) "Less").run Try.prog w = .ok (76, .slice A n c) w := by
  have hm : Array.find? (fun x => x.name == "Less") Try.t58.methods = some ⟨"Less", 88, #[], some (76, false)⟩ := by kernel_rfl
  rw [method]
  simp [go_sem, hm, follow, receiverAt, Place.get, hc, run_wrapChk, loadVar]

theorem meth_Swap {hb n c : Nat} {A : Option Addr} {w : World} (hc : w.cell? ⟨hb, 0, none⟩ = some (.slice A n c)) :
    (method 207 58 (.pointer (some ⟨hb, 0, none⟩)) "Swap").run Try.prog w = .ok (77, .slice A n c) w := by
  have hm : Array.find? (fun x => x.name == "Swap") Try.t58.methods = some ⟨"Swap", 89, #[], some (77, false)⟩ := by kernel_rfl
  rw [method]
  simp [go_sem, hm, follow, receiverAt, Place.get, hc, run_wrapChk, loadVar]

theorem meth_Pop (hb : Nat) (w : World) :
    (method 207 58 (.pointer (some ⟨hb, 0, none⟩)) "Pop").run Try.prog w = .ok (78, .pointer (some ⟨hb, 0, none⟩)) w := by
  have hm : Array.find? (fun x => x.name == "Pop") Try.t58.methods = some ⟨"Pop", 90, #[], some (78, true)⟩ := by kernel_rfl
  rw [method]
  simp [go_sem, hm, follow, receiverAt, Place.get, run_wrapChk, loadVar]

theorem meth_Push (hb : Nat) (w : World) :
    (method 207 58 (.pointer (some ⟨hb, 0, none⟩)) "Push").run Try.prog w = .ok (79, .pointer (some ⟨hb, 0, none⟩)) w := by
  have hm : Array.find? (fun x => x.name == "Push") Try.t58.methods = some ⟨"Push", 77, #[], some (79, true)⟩ := by kernel_rfl
  rw [method]
  simp [go_sem, hm, follow, receiverAt, Place.get, run_wrapChk, loadVar]

theorem OwE.rd {w : World} {B n c : Nat} {A : Option Addr} {zs : List En} (h : OwE w B (.slice A n c) zs) (hl : zs.length = n) : RdE w w.heap.size A n zs := by
  obtain ⟨A', c', e, hr, _⟩ := h.form
  injection e with e1 e2 e3
  subst e1
  rw [hl] at hr; exact hr
/-- a heap that is not empty: its box hb, its slice's block g -/
def HMs (w : World) (lo hb g n c : Nat) (zs : List En) : Prop := Bx w hb 56 (.slice (some ⟨g, 0, none⟩) n c) ∧ OwE w lo (.slice (some ⟨g, 0, none⟩) n c) zs ∧ zs.length = n ∧ g ≠ hb
section
variable {w w' : World} {lo hb g n c : Nat} {zs ys : List En} {S : Nat → Prop}

theorem HMs.below (h : HMs w lo hb g n c zs) (hk : Below w.heap.size w w') : HMs w' lo hb g n c zs := ⟨h.1.below hk, h.2.1.below hk, h.2.2⟩

theorem HMs.drew (h : HMs w lo hb g n c zs) : HMs w.drew lo hb g n c zs := h

theorem HMs.rd (h : HMs w lo hb g n c zs) : RdE w w.heap.size (some ⟨g, 0, none⟩) n zs := h.2.1.rd h.2.2.1

theorem HMs.put (h : HMs w lo hb g n c zs) (ho : OwE w' lo (.slice (some ⟨g, 0, none⟩) n c) ys) (hl : ys.length = zs.length) (hg : w.grownBy w' (some g)) : HMs w' lo hb g n c ys :=
  ⟨(hg.block hb h.1.lt (fun e => h.2.2.2 (by injection e with e; exact e.symm))).trans h.1, ho, by rw [hl]; exact h.2.2.1, h.2.2.2⟩

theorem HMs.lt (h : HMs w lo hb g n c zs) : g < w.heap.size := (h.2.1.lt g rfl).2
end

theorem Less_at {n c i j : Nat} {A : Option Addr} {zs : List En} {x y : Int} {r : Bool} (hr' : ltS (keyE zs i) (keyE zs j) = r) (w : World) (hr : RdE w w.heap.size A n zs) (hn : n < 1099511627776) (hi : i < n) (hj : j < n) (hx : x = (i : Int)) (hy : y = (j : Int)) :
    Calls Try.prog 76 #[.slice A n c, .int .i64 x, .int .i64 y] w fun e w' => e = .returned (.bool r) ∧ Below w.heap.size w w' := by
  subst hx; subst hy; subst hr'; exact Less_h w hr hn hi hj

theorem Swap_at {lo n c i j g : Nat} {zs : List En} {x y : Int} (w : World) (ho : OwE w lo (.slice (some ⟨g, 0, none⟩) n c) zs) (hl : zs.length = n) (hn : n < 1099511627776) (hi : i < n) (hj : j < n) (hij : i ≠ j) (hx : x = (i : Int)) (hy : y = (j : Int)) :
    Calls Try.prog 77 #[.slice (some ⟨g, 0, none⟩) n c, .int .i64 x, .int .i64 y] w fun e w' => e = .returned (.tuple #[]) ∧ OwE w' lo (.slice (some ⟨g, 0, none⟩) n c) (swE zs i j) ∧ w.grownBy w' (some g) := by
  subst hx; subst hy; exact Swap_ne w ho hl hn hi hj hij
end Go.Proofs.Ytbnmeedmeikepaa
