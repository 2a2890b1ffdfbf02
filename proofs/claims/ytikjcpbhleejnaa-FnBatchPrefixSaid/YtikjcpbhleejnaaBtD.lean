/-
  Contracts of the program's plain functions of batches: batchLimitsExist, BatchesValid, and a batch's methods counts, end, has, size. No condition but what size asks: that the items exist.
-/
import Derived.Test.YtikjcpbhleejnaaBtB
namespace Go.Proofs.Ytikjcpbhleejnaa
open Go.RowKit

/-- a batch by value -/
abbrev btv (a b : Int) : Value := .agg #[.int .i64 a, .int .i64 b]
/-- block b is a batch -/
def AtB (w : World) (b : Nat) (x y : Int) : Prop := w.heap[b]? = some (.cells #[.int .i64 x, .int .i64 y] 47 (0, 0))
section
variable {w w' : World} {b : Nat} {x y : Int}

theorem AtB.lt (h : AtB w b x y) : b < w.heap.size := (Array.getElem?_eq_some_iff.1 h).1

theorem AtB.c0 (h : AtB w b x y) : w.cell? ⟨b, 0, none⟩ = some (.int .i64 x) := by rw [cell_of_row w b 0 _ _ (0, 0) h]; rfl

theorem AtB.c1 (h : AtB w b x y) : w.cell? ⟨b, 1, none⟩ = some (.int .i64 y) := by rw [cell_of_row w b 1 _ _ (0, 0) h]; rfl

theorem AtB.keep (h : AtB w b x y) (hb : w'.heap[b]? = w.heap[b]?) : AtB w' b x y := hb.trans h

theorem AtB.below {B : Nat} (h : AtB w b x y) (hb : Below B w w') (hB : b < B) : AtB w' b x y := h.keep (hb.block b hB)

theorem AtB.new (w : World) (x y : Int) : AtB (w.alloc (.cells #[.int .i64 x, .int .i64 y] 47)) w.heap.size x y := heap_alloc_new w _

theorem AtB.drew (h : AtB w b x y) : AtB w.drew b x y := h
end

def limB (B M : Int) : Bool := inB B 1 99 && inB M 1 20

set_option maxHeartbeats 400000 in
theorem batchLimitsExist_any (B M : Int) (w : World) :
    Calls Try.prog 32 #[.int .i64 B, .int .i64 M] w fun e w' => e = .returned (.bool (limB B M)) ∧ w = w' := by
  go_enter Try.func32, Try.ntmps32
  go_wp2
  all_goals go_ret
  all_goals exact ⟨ret_bool (by simp [limB, inB, *] <;> omega), rfl⟩

set_option maxHeartbeats 1000000 in
theorem BatchesValid_impl {P n c : Nat} {A : Option Addr} {zs : List Int} (B M : Int) (w : World) (hr : RdI w P A n zs) (hn : n < 1099511627776) :
    Calls Try.prog 22 #[.slice A n c, .int .i64 B, .int .i64 M] w fun e w' => e = .returned (.bool (bvB zs B M)) ∧ w = w' := by
  have hl' := hid hr.len
  have hr' := hid hr
  clear hr
  cases hlim : limB B M with
  | false =>
    have hf := hid (show bvB zs B M = false by
      rw [bvB]
      have : (inB B 1 99 && inB M 1 20) = false := hlim
      rw [this]; simp)
    have hlim' := hid hlim
    clear hlim
    go_enter Try.func22, Try.ntmps22
    go_wp2_with (go_at_call 32; (with_reducible refine (batchLimitsExist_any _ _ _).mono ?_); rw [hlim'.out]; rintro e w1 ⟨rfl, rfl⟩)
    go_ret
    exact ⟨by rw [hf.out]; rfl, rfl⟩
  | true =>
    have hlim' := hid hlim
    have hBM : (1 ≤ B ∧ B ≤ 99) ∧ 1 ≤ M ∧ M ≤ 20 := by
      simpa [limB, inB] using hlim
    obtain ⟨⟨hB1, hB9⟩, hM1, hM2⟩ := hBM
    clear hlim
    by_cases h20 : n ≤ 20
    · go_enter Try.func22, Try.ntmps22
      go_wp2_with (go_at_call 32; (with_reducible refine (batchLimitsExist_any _ _ _).mono ?_); rw [hlim'.out]; rintro e w1 ⟨rfl, rfl⟩)
      go_loop [20] (fun i => ∃ k : Nat, k ≤ n ∧ i = .int .i64 k ∧ Hid (∀ j, j < k → itB B (zs.getD j 0) = true)) (fun i => n - (intOf i).toNat)
      case atStart => exact ⟨0, Nat.zero_le _, rfl, hid (fun j h => by omega)⟩
      case round =>
        obtain ⟨k, hk, rfl, hall⟩ := hrel
        by_cases hlt : k < n
        · obtain ⟨ad, z, rfl, hz, hc⟩ := RdI.at' hr'.out hlt
          by_cases h1 : z < 1
          · have hbad := hid (bvB_bad (M := M) (i := k) (by rw [hl'.out]; exact hlt) (show itB B (zs.getD k 0) = false by rw [hz.out, itB, inB_false]; exact .inl h1))
            go_wp2
            go_ret
            exact ⟨by rw [hbad.out]; rfl, rfl⟩
          · by_cases h2 : B < z
            · have hbad := hid (bvB_bad (M := M) (i := k) (by rw [hl'.out]; exact hlt) (show itB B (zs.getD k 0) = false by rw [hz.out, itB, inB_false]; exact .inr h2))
              go_wp2
              go_ret
              exact ⟨by rw [hbad.out]; rfl, rfl⟩
            · have hok := hid (show itB B (zs.getD k 0) = true by rw [hz.out, itB, inB_true]; omega)
              clear hz
              go_wp2
              go_round
              case rel => exact ⟨k + 1, by omega, by go_num, hid (fun j hj => by
                  by_cases e : j = k
                  · subst e; exact hok.out
                  · exact hall.out j (by omega))⟩
              case measure => simp [intOf]; omega
        · have hfin := hid (show bvB zs B M = true by
            rw [bvB_fin (fun i hi => hall.out i (by rw [hl'.out] at hi; omega)), hl'.out, decide_eq_true h20]
            exact hlim'.out)
          go_wp2
          go_ret
          exact ⟨by rw [hfin.out]; rfl, rfl⟩
    · have hf := hid (bvB_lim (xs := zs) (B := B) (M := M) (fun h => h20 (by have := h.1; rw [hl'.out] at this; exact this)))
      go_enter Try.func22, Try.ntmps22
      go_wp2_with (go_at_call 32; (with_reducible refine (batchLimitsExist_any _ _ _).mono ?_); rw [hlim'.out]; rintro e w1 ⟨rfl, rfl⟩)
      go_ret
      exact ⟨by rw [hf.out]; rfl, rfl⟩

theorem below_box (w : World) (o : Obj) : Below w.heap.size w (w.alloc o) := (Below.refl w.heap.size w).alloc (Nat.le_refl _) o

set_option maxHeartbeats 400000 in
theorem counts_any (a b M : Int) (w : World) :
    Calls Try.prog 27 #[btv a b, .int .i64 M] w fun e w' => e = .returned (.bool (inB b 1 M)) ∧ Below w.heap.size w w' := by
  go_enter Try.func27, Try.ntmps27
  go_wp2
  all_goals go_ret
  · exact ⟨ret_bool (by simp [inB, *]), below_box _ _⟩
  · exact ⟨ret_bool (by simp [inB, *]; omega), below_box _ _⟩

set_option maxHeartbeats 400000 in
theorem end_any (a b : Int) (h1 : -1152921504606846976 ≤ a + b) (h2 : a + b ≤ 1152921504606846976) (w : World) :
    Calls Try.prog 28 #[btv a b] w fun e w' => e = .returned (.int .i64 (a + b)) ∧ Below w.heap.size w w' := by
  have hw : IntKind.i64.wrap (a + b) = a + b := IntWalk.i64_in _ (by omega)
  go_enter Try.func28, Try.ntmps28
  go_wp2
  go_ret
  exact ⟨rfl, below_box _ _⟩

set_option maxHeartbeats 1000000 in
theorem has_any (a b x : Int) (h1 : -1152921504606846976 ≤ a + b) (h2 : a + b ≤ 1152921504606846976) (w : World) :
    Calls Try.prog 31 #[btv a b, .int .i64 x] w fun e w' => e = .returned (.bool (decide (a ≤ x) && decide (x < a + b))) ∧ Below w.heap.size w w' := by
  by_cases hx : a ≤ x
  · have hx' := hid hx
    go_enter Try.func31, Try.ntmps31
    go_wp2_with fail
    refine (end_any _ _ h1 h2 _).mono ?_
    rintro e w1 ⟨rfl, hb⟩
    have hB := hid ((below_box w (.cells #[.int .i64 a, .int .i64 b] 47)).trans (hb.mono (by simp)))
    clear hb
    go_wp2
    go_ret
    exact ⟨ret_bool (by simp [hx'.out]), hB.out⟩
  · have hd := hid (show decide (a ≤ x) = false by simp; omega)
    go_enter Try.func31, Try.ntmps31
    go_wp2
    go_ret
    exact ⟨ret_bool (by rw [hd.out]; rfl), below_box _ _⟩
end Go.Proofs.Ytikjcpbhleejnaa
