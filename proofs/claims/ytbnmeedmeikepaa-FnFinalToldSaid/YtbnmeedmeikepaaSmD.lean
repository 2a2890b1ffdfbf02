/-
  Contract of the program's StampMax: the greatest of 1 to 12 valid stamps, else nothing. No condition but lengths below 2^40.
-/
import Derived.Test.YtbnmeedmeikepaaSmC
namespace Go.Proofs.Ytbnmeedmeikepaa
open Go.RowKit

theorem RdS.drop {w : World} {b off n k : Nat} {zs : List St} (h : RdS w (some ⟨b, off, none⟩) n zs) (hk : k ≤ n) : RdS w (some ⟨b, off + k * 2, none⟩) (n - k) (zs.drop k) := by
  refine ⟨by rw [List.length_drop, h.1], fun hn => ?_⟩
  obtain ⟨b', off', e, hl, hc⟩ := h.2 (by omega)
  injection e with e
  injection e with e1 e2
  subst e1; subst e2
  refine ⟨b, off + k * 2, rfl, hl, fun j x hx => ?_⟩
  rw [List.getElem?_drop] at hx
  have := hc _ x hx
  rw [show off + k * 2 + j * 2 = off + (k + j) * 2 by omega]
  exact this

theorem RdS.empty {w : World} {A A' : Option Addr} {n : Nat} {zs : List St} (h : RdS w A n zs) (k : Nat) (hk : n ≤ k) : RdS w A' 0 (zs.drop k) := by
  refine ⟨?_, fun h => absurd h (by omega)⟩
  rw [List.length_drop, h.1]; omega

def slLen : Value → Nat
  | .slice _ n _ => n
  | _ => 0

theorem tail_drop {zs : List St} {j : Nat} (hj : 1 ≤ j) : (zs.take j).tail ++ zs.drop j = zs.tail := by
  cases zs with
  | nil => simp
  | cons z l =>
    obtain ⟨j, rfl⟩ : ∃ i, j = i + 1 := ⟨j - 1, by omega⟩
    simp

theorem max_step {zs : List St} {j k : Nat} {m x z0 : St} (hj : 1 ≤ j) (hm : m = mxL z0 (zs.take j).tail) (hx : (zs.drop j)[k]? = some x) (hl : ltS m x = true) (hall : ∀ (i : Nat) (y : St), i < k → (zs.drop j)[i]? = some y → ltS m y = false) :
    x = mxL z0 (zs.take (j + (k + 1))).tail := by
  have e : (zs.take (j + (k + 1))).tail = (zs.take j).tail ++ ((zs.drop j).take k ++ [x]) := by
    have h1 : (zs.drop j).take (k + 1) = (zs.drop j).take k ++ [x] := by rw [List.take_add_one, hx]; rfl
    rw [← h1]
    cases zs with
    | nil => simp at hx
    | cons z l =>
      obtain ⟨j, rfl⟩ : ∃ i, j = i + 1 := ⟨j - 1, by omega⟩
      rw [show j + 1 + (k + 1) = j + (k + 1) + 1 by omega]
      simp [List.take_add]
  rw [e, mxL_app, ← hm, mxL_jump (fun y hy => ?_) hl]
  · rfl
  · obtain ⟨i, hi⟩ := List.getElem?_of_mem hy
    have hi2 : i < k := by
      have := (List.getElem?_eq_some_iff.1 hi).1
      rw [List.length_take] at this; omega
    rw [List.getElem?_take_of_lt hi2] at hi
    exact hall i y hi2 hi

theorem max_end {zs : List St} {j : Nat} {m z0 : St} (hj : 1 ≤ j) (hm : m = mxL z0 (zs.take j).tail) (hall : ∀ (i : Nat) (y : St), (zs.drop j)[i]? = some y → ltS m y = false) : m = mxL z0 zs.tail := by
  rw [← tail_drop hj, mxL_app, ← hm, mxL_skip]
  intro y hy
  obtain ⟨i, hi⟩ := List.getElem?_of_mem hy
  exact hall i y hi

end Go.Proofs.Ytbnmeedmeikepaa
