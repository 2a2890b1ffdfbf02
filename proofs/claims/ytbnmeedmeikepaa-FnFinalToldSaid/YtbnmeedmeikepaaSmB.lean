/-
  Contracts of StampMax, of the model and of the program. No condition but lengths below 2^40.
-/
import Derived.Test.YtbnmeedmeikepaaSmA
import Derived.Test.YtbnmeedmeikepaaAt2
namespace Go.Proofs.Ytbnmeedmeikepaa
open Go.RowKit

/-- '.slice A n c' reads as the stamps zs -/
def RdS (w : World) (A : Option Addr) (n : Nat) (zs : List St) : Prop :=
  zs.length = n ∧ (0 < n → ∃ b off, A = some ⟨b, off, none⟩ ∧ b < w.heap.size ∧
    ∀ j x, zs[j]? = some x → w.cell? ⟨b, off + j * 2, none⟩ = some (.int .i64 x.1) ∧ w.cell? ⟨b, off + j * 2 + 1, none⟩ = some (.int .i64 x.2))

theorem RdS.below {w w' : World} {A : Option Addr} {n : Nat} {zs : List St} (h : RdS w A n zs) (hb : Below w.heap.size w w') : RdS w' A n zs :=
  ⟨h.1, fun hn => by
    obtain ⟨b, off, e, hl, hc⟩ := h.2 hn
    exact ⟨b, off, e, Nat.lt_of_lt_of_le hl hb.size, fun j x hx => ⟨(hb.cell hl).trans (hc j x hx).1, (hb.cell hl).trans (hc j x hx).2⟩⟩⟩

theorem RdS.at_ {w : World} {A : Option Addr} {n k : Nat} {zs : List St} (h : RdS w A n zs) (hk : k < n) :
    ∃ b off t g, A = some ⟨b, off, none⟩ ∧ Hid (zs[k]? = some (t, g)) ∧ b < w.heap.size ∧ w.cell? ⟨b, off + k * 2, none⟩ = some (.int .i64 t) ∧ w.cell? ⟨b, off + k * 2 + 1, none⟩ = some (.int .i64 g) := by
  obtain ⟨b, off, e, hl, hc⟩ := h.2 (by omega)
  have hlen : k < zs.length := by rw [h.1]; exact hk
  have hx : zs[k]? = some zs[k] := List.getElem?_eq_getElem hlen
  exact ⟨b, off, zs[k].1, zs[k].2, e, hx, hl, (hc k _ hx).1, (hc k _ hx).2⟩

theorem RdS.len {w : World} {A : Option Addr} {n : Nat} {zs : List St} (h : RdS w A n zs) : zs.length = n := h.1

theorem take_tail_succ {zs : List St} {k : Nat} {x : St} (hk : 1 ≤ k) (hx : zs[k]? = some x) : (zs.take (k + 1)).tail = (zs.take k).tail ++ [x] := by
  rw [List.take_add_one, hx]
  cases zs with
  | nil => simp at hx
  | cons z l =>
    obtain ⟨k', rfl⟩ : ∃ k', k = k' + 1 := ⟨k - 1, by omega⟩
    simp

end Go.Proofs.Ytbnmeedmeikepaa
