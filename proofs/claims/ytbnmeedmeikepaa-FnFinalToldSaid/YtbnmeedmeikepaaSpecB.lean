/-
  Contracts of readers whose tests draw their order: sameInts, eqIntS, spec.GroupsValid. No condition but lengths below 2^40.
-/
import Derived.Test.YtbnmeedmeikepaaSpecA
namespace Go.Proofs.Ytbnmeedmeikepaa
open Go.RowKit

/-- are two lists of ints equal? -/
def sameB (xs ys : List Int) : Bool := decide (xs = ys)

theorem sameB_len {xs ys : List Int} (h : xs.length ≠ ys.length) : sameB xs ys = false := by
  simp only [sameB, decide_eq_false_iff_not]; intro e; exact h (by rw [e])

theorem sameB_miss {xs ys : List Int} {k : Nat} (h : xs.getD k 0 ≠ ys.getD k 0) : sameB xs ys = false := by
  simp only [sameB, decide_eq_false_iff_not]; intro e; exact h (by rw [e])

theorem sameB_all {xs ys : List Int} (hl : xs.length = ys.length) (h : ∀ i, i < xs.length → xs.getD i 0 = ys.getD i 0) : sameB xs ys = true := by
  simp only [sameB, decide_eq_true_eq]
  apply List.ext_getElem hl
  intro i h1 h2
  have := h i h1
  simpa [h1, h2] using this

set_option maxHeartbeats 400000 in
theorem sameInts_any {B B' n m c d : Nat} {A A' : Option Addr} {xs ys : List Int} (w : World) (hx : RdI w B A n xs) (hy : RdI w B' A' m ys) (hn : n < 1099511627776) (hm : m < 1099511627776) :
    Calls Try.prog 15 #[.slice A n c, .slice A' m d] w fun e w' => e = .returned (.bool (sameB xs ys)) ∧ Qt w w' := by
  have hlx := hid hx.len
  have hly := hid hy.len
  have hx' := hid hx
  have hy' := hid hy
  clear hx hy
  by_cases hnm : n = m
  · subst hnm
    have h0 : ((n : Int) != (n : Int)) = false := by simp
    go_enter Try.func15, Try.ntmps15
    go_wp2
    go_loopw [5] (fun i wr => ∃ k : Nat, k ≤ n ∧ i = .int .i64 k ∧ Qt w wr ∧ Hid (∀ j, j < k → xs.getD j 0 = ys.getD j 0)) (fun i _ => n - (intOf i).toNat)
    case atStart => exact ⟨0, Nat.zero_le _, rfl, Qt.refl _, hid (fun j h => by omega)⟩
    case round =>
      obtain ⟨k, hk, rfl, hq, hall⟩ := hrel
      by_cases hlt : k < n
      · obtain ⟨ad, z, rfl, hz, hc⟩ := RdI.at' (hq.reads hx'.out) hlt
        obtain ⟨ad', z', rfl, hz', hc'⟩ := RdI.at' (hq.reads hy'.out) hlt
        go_wp2
        go_quiet (fail)
        go_wp2
        · have h1 : (z != z') = true := by assumption
          go_ret
          exact ⟨ret_bool (sameB_miss (k := k) (by rw [hz.out, hz'.out]; simpa using h1)).symm, hq.drewN _⟩
        · have h1 : (z != z') = false := by assumption
          go_roundw
          case rel => exact ⟨k + 1, by omega, by go_num, hq.drewN _, hid (fun j hj => by
              by_cases e : j = k
              · subst e; rw [hz.out, hz'.out]; simpa using h1
              · exact hall.out j (by omega))⟩
          case measure => simp [intOf]; omega
      · go_wp2
        go_ret
        exact ⟨ret_bool (sameB_all (by rw [hlx.out, hly.out]) (fun i hi => hall.out i (by rw [hlx.out] at hi; omega))).symm, hq⟩
  · have h0 : ((n : Int) != (m : Int)) = true := by simp; omega
    go_enter Try.func15, Try.ntmps15
    go_wp2
    go_ret
    exact ⟨ret_bool (sameB_len (by rw [hlx.out, hly.out]; exact hnm)).symm, Qt.refl _⟩

end Go.Proofs.Ytbnmeedmeikepaa
