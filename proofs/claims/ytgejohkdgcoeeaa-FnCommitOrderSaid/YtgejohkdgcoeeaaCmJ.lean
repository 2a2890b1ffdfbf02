/-
  Contracts: the library's sort of at most seven places of an array in a struct, and the program's CommitIndex. No condition but lengths below 2^40.
-/
import Derived.Test.YtgejohkdgcoeeaaCmI
namespace Go.Proofs.Ytgejohkdgcoeeaa
open Go.RowKit

set_option maxHeartbeats 400000 in
theorem isNaN_any (x : Int) (w : World) :
    Calls Try.prog 63 #[.int .i64 x] w fun e w' => e = .returned (.bool false) ∧ w = w' := by
  have h : (x != x) = false := by simp
  go_enter Try.func63, Try.ntmps63
  go_wp2
  go_ret
  exact ⟨rfl, rfl⟩

set_option maxHeartbeats 400000 in
theorem Less_any (x y : Int) (w : World) :
    Calls Try.prog 53 #[.int .i64 x, .int .i64 y] w fun e w' => e = .returned (.bool (decide (x < y))) ∧ w = w' := by
  go_enter Try.func53, Try.ntmps53
  go_wp2_with (go_at_call 63; (with_reducible refine (isNaN_any _ _).mono ?_); rintro e w' ⟨rfl, rfl⟩)
  go_ret
  exact ⟨rfl, rfl⟩

/-- ascending up to k -/
def AscTo (ys : List Int) (k : Nat) : Prop := ∀ p q, p ≤ q → q < k → ys.getD p 0 ≤ ys.getD q 0
/-- ascending up to k, but for what stands at j -/
def AscBut (ys : List Int) (k j : Nat) : Prop := ∀ p q, p < q → q ≤ k → q ≠ j → ys.getD p 0 ≤ ys.getD q 0

theorem AscBut.start {ys : List Int} {k : Nat} (h : AscTo ys k) : AscBut ys k k := fun p q hpq hq hne => h p q (by omega) (by omega)

theorem AscBut.zero {ys : List Int} {k : Nat} (h : AscBut ys k 0) : AscTo ys (k + 1) := fun p q hpq hq => by
  by_cases e : p = q
  · subst e; exact Int.le_refl _
  · exact h p q (by omega) (by omega) (by omega)

theorem AscBut.stop {ys : List Int} {k i : Nat} (h : AscBut ys k (i + 1)) (hle : ys.getD i 0 ≤ ys.getD (i + 1) 0) : AscTo ys (k + 1) := fun p q hpq hq => by
  by_cases e : p = q
  · subst e; exact Int.le_refl _
  · by_cases e2 : q = i + 1
    · subst e2
      by_cases e3 : p = i
      · subst e3; exact hle
      · have := h p i (by omega) (by omega) (by omega)
        omega
    · exact h p q (by omega) (by omega) e2
/-- two neighbours exchanged -/
def swp (ys : List Int) (i : Nat) : List Int := (ys.set (i + 1) (ys.getD i 0)).set i (ys.getD (i + 1) 0)

theorem swp_len (ys : List Int) (i : Nat) : (swp ys i).length = ys.length := by simp [swp]

theorem swp_hi {ys : List Int} {i : Nat} (h : i + 1 < ys.length) : (swp ys i).getD (i + 1) 0 = ys.getD i 0 := by
  simp [swp, h]

theorem swp_lo {ys : List Int} {i : Nat} (h : i + 1 < ys.length) : (swp ys i).getD i 0 = ys.getD (i + 1) 0 := by
  have : i < ys.length := by omega
  simp [swp, this]

theorem swp_ne {ys : List Int} {i p : Nat} (h1 : p ≠ i) (h2 : p ≠ i + 1) : (swp ys i).getD p 0 = ys.getD p 0 := by
  have a1 : i ≠ p := fun e => h1 e.symm
  have a2 : i + 1 ≠ p := fun e => h2 e.symm
  simp [swp, a1, a2]

theorem AscBut.swp {ys : List Int} {k i : Nat} (h : AscBut ys k (i + 1)) (hk : i + 1 ≤ k) (hl : k < ys.length) (hlt : ys.getD (i + 1) 0 < ys.getD i 0) : AscBut (swp ys i) k i := fun p q hpq hq hne => by
  have g1 := swp_hi (ys := ys) (i := i) (by omega)
  have g2 := swp_lo (ys := ys) (i := i) (by omega)
  by_cases e1 : q = i + 1
  · subst e1
    by_cases e2 : p = i
    · subst e2; rw [g1, g2]; omega
    · rw [g1, swp_ne e2 (by omega)]
      exact h p i (by omega) (by omega) (by omega)
  · rw [swp_ne (p := q) hne e1]
    by_cases e2 : p = i
    · subst e2; rw [g2]
      by_cases e3 : p + 1 < q
      · exact h (p + 1) q e3 hq e1
      · omega
    · by_cases e3 : p = i + 1
      · subst e3; rw [g1]; exact h i q (by omega) hq e1
      · rw [swp_ne e2 e3]; exact h p q hpq hq e1

theorem swp_perm {ys : List Int} {i m : Nat} (h : i + 1 < m) (hm : m ≤ ys.length) : ((swp ys i).take m).Perm (ys.take m) := by
  have h1 : i + 1 < (ys.take m).length := by rw [List.length_take]; omega
  have h0 : i < (ys.take m).length := by omega
  have e : (swp ys i).take m = ((ys.take m).set (i + 1) (ys.take m)[i]).set i (ys.take m)[i + 1] := by
    have e1 : ys.getD i 0 = (ys.take m)[i] := by
      have : i < ys.length := by omega
      simp [this]
    have e2 : ys.getD (i + 1) 0 = (ys.take m)[i + 1] := by
      have : i + 1 < ys.length := by omega
      simp [this]
    rw [swp, List.take_set, List.take_set, e1, e2]
  rw [e]
  exact List.set_set_perm h1 h0

theorem grown_drewN {w w' : World} {r : Option Nat} (h : w.grownBy w' r) (n : Nat) : w.grownBy (w'.drewN n) r := ⟨h.os, h.tape, h.output, h.size, h.block⟩

theorem grown_cell {w w' : World} {b : Nat} (h : w.grownBy w' (some b)) (k : Nat) (u : Value) : w.grownBy (w'.setCell ⟨b, k, none⟩ u) (some b) :=
  ⟨h.os, h.tape, h.output, by rw [show (w'.setCell ⟨b, k, none⟩ u).heap.size = w'.heap.size by simp [World.setCell]]; exact h.size, fun i hi hne => (heap_setCell_other w' ⟨b, k, none⟩ i u (fun e => hne (by rw [e]))).trans (h.block i hi hne)⟩

def SortPost (b m : Nat) (n0 : Int) (xs : List Int) (w : World) (e : Ending) (w' : World) : Prop :=
  e = .returned (.tuple #[]) ∧ ∃ s, AtC w' b (n0 :: s) ∧ s.length = 7 ∧ (s.take m).Perm (xs.take m) ∧ AscTo s m ∧ w.grownBy w' (some b)

set_option maxHeartbeats 4000000 in
theorem insertionSort_any {b m : Nat} {n0 : Int} {xs : List Int} (w : World) (hA : AtC w b (n0 :: xs)) (hx : xs.length = 7) (hm1 : 1 ≤ m) (hm : m ≤ 7) :
    Calls Try.prog 47 #[.slice (some ⟨b, 1, none⟩) m 7, .int .i64 0, .int .i64 m] w (SortPost b m n0 xs w) := by
  have hA' := hid hA
  have hx' := hid hx
  clear hA hx
  go_enter Try.func47, Try.ntmps47
  go_wp2
  go_loopw [6] (fun i wr => ∃ (k : Nat) (ys : List Int), 1 ≤ k ∧ k ≤ m ∧ i = .int .i64 k ∧ Hid (AtC wr b (n0 :: ys)) ∧ Hid (ys.length = 7) ∧ Hid ((ys.take m).Perm (xs.take m)) ∧ Hid (AscTo ys k) ∧ Hid (w.grownBy wr (some b))) (fun i _ => m - (intOf i).toNat)
  case atStart => exact ⟨1, xs, by omega, hm1, rfl, hA', hx', hid (List.Perm.refl _), hid (fun p q hpq hq => by
    have : p = q := by omega
    subst this; exact Int.le_refl _), hid (World.grownBy.refl _ _)⟩
  case round =>
    obtain ⟨k, ys, hk1, hk, rfl, hA1, hl1, hp1, hs1, hg1⟩ := hrel
    by_cases hlt : k < m
    · go_wp2
      go_loopw [7] (fun j wr2 => ∃ (k2 : Nat) (zs : List Int), k2 ≤ k ∧ j = .int .i64 k2 ∧ Hid (AtC wr2 b (n0 :: zs)) ∧ Hid (zs.length = 7) ∧ Hid ((zs.take m).Perm (xs.take m)) ∧ Hid (AscBut zs k k2) ∧ Hid (w.grownBy wr2 (some b))) (fun j _ => (intOf j).toNat)
      case atStart => exact ⟨k, ys, Nat.le_refl _, rfl, hA1, hl1, hp1, hid (AscBut.start hs1.out), hg1⟩
      case round =>
        obtain ⟨k2, zs, hk2, rfl, hA2, hl2, hp2, hs2, hg2⟩ := hrel
        rcases Nat.eq_zero_or_pos k2 with h0 | h0
        · have hd : decide (0 < k2) = false := by simp; omega
          have hs3 : Hid (AscTo zs (k + 1)) := hid (by
            have := hs2.out
            rw [h0] at this
            exact this.zero)
          clear h0
          go_wp2
          go_quiet (fail)
          go_wp2
          go_roundw
          case rel => exact ⟨k + 1, zs, by omega, by omega, by go_num, hid (hA2.out.drewN _), hl2, hp2, hs3, hid (grown_drewN hg2.out _)⟩
          case measure => simp [intOf]; omega
        · obtain ⟨i, hi⟩ : ∃ i, k2 = i + 1 := ⟨k2 - 1, by omega⟩
          have hd : decide (0 < k2) = true := by simp; omega
          have hi1 := hid (show k2 < zs.length by rw [hl2.out]; omega)
          have c1 := hA2.out.arr (k := k2) hi1.out
          have c0 := hA2.out.arr (k := i) (by have := hi1.out; omega)
          have f1 := hA2.out.fr (1 + k2)
          have f0 := hA2.out.fr (1 + i)
          have hw : IntKind.i64.wrap ((k2 : Int) - 1) = (k2 : Int) - 1 := IntWalk.i64_in _ (by omega)
          have hp' : (0 : Int) ≤ (k2 : Int) - 1 := by omega
          have ht : ((k2 : Int) - 1).toNat = i := by omega
          have hlt1 : (k2 : Int) - 1 < (m : Int) := by omega
          have hlt2 : (k2 : Int) < (m : Int) := by omega
          obtain ⟨x, hxx⟩ : ∃ x, zs.getD k2 0 = x := ⟨_, rfl⟩
          obtain ⟨y, hyy⟩ : ∃ y, zs.getD i 0 = y := ⟨_, rfl⟩
          rw [hxx] at c1
          rw [hyy] at c0
          have hxx' := hid hxx
          have hyy' := hid hyy
          have hi' := hid hi
          clear hxx hyy hi
          by_cases hxy : x < y
          · have hdx : decide (x < y) = true := by simpa using hxy
            have hne : (⟨b, 1 + k2, none⟩ : Addr) ≠ ⟨b, 1 + i, none⟩ := fun e => by
              injection e with e1 e2
              have := hi'.out
              omega
            have hne' := hid hne
            clear hne
            go_wp2
            go_quiet ((go_at_call 53; exact same_call (Less_any _ _ _)))
            go_wp2
            have hA3 : Hid (AtC (wr.drewN nq) b (n0 :: zs)) := hid (hA2.out.drewN nq)
            have hg3 : Hid (w.grownBy (wr.drewN nq) (some b)) := hid (grown_drewN hg2.out nq)
            clear c1 c0 f1 f0 hA2 hg2
            generalize wr.drewN nq = wq at hA3 hg3 ⊢
            have c1 := hA3.out.arr (k := k2) hi1.out
            have c0 := hA3.out.arr (k := i) (by have := hi1.out; have := hi'.out; omega)
            rw [hxx'.out] at c1
            rw [hyy'.out] at c0
            have f1 := hA3.out.fr (1 + k2)
            have f0 := hA3.out.fr (1 + i)
            have c2 : ∀ u, (wq.setCell ⟨b, 1 + k2, none⟩ u).cell? ⟨b, 1 + i, none⟩ = some (.int .i64 y) := fun u => (World.cell?_setCell_other wq ⟨b, 1 + k2, none⟩ ⟨b, 1 + i, none⟩ u hne'.out).trans c0
            have hA4 := hid ((hA3.out.setArr k2 y).setArr i x)
            have hsw : Hid ((zs.set k2 y).set i x = swp zs i) := hid (by
              have e1 := hxx'.out
              have e2 := hyy'.out
              rw [hi'.out] at e1 ⊢
              rw [swp, e1, e2])
            have hs3 : Hid (AscBut (swp zs i) k i) := hid (by
              have h1 := hs2.out
              have e1 := hxx'.out
              rw [hi'.out] at h1 e1
              exact h1.swp (by have := hi'.out; omega) (by rw [hl2.out]; omega) (by rw [e1, hyy'.out]; exact hxy))
            have hp3 : Hid (((swp zs i).take m).Perm (xs.take m)) := hid ((swp_perm (by have := hi'.out; omega) (by rw [hl2.out]; exact hm)).trans hp2.out)
            have hg4 : Hid (w.grownBy ((wq.setCell ⟨b, 1 + k2, none⟩ (.int .i64 y)).setCell ⟨b, 1 + i, none⟩ (.int .i64 x)) (some b)) := hid (grown_cell (grown_cell hg3.out _ _) _ _)
            rw [hsw.out] at hA4
            go_region
            go_wp2
            go_roundw
            case rel => exact ⟨i, swp zs i, by have := hi'.out; omega, by go_num, hid hA4.out.drew, hid (by rw [swp_len]; exact hl2.out), hp3, hs3, hid (grown_drewN hg4.out 1)⟩
            case measure => simp [intOf]; have := hi'.out; omega
          · have hdx : decide (x < y) = false := by simpa using hxy
            have hs3 : Hid (AscTo zs (k + 1)) := hid (by
              have := hs2.out
              rw [hi'.out] at this
              refine this.stop ?_
              rw [hyy'.out, ← hi'.out, hxx'.out]; omega)
            go_wp2
            go_quiet ((go_at_call 53; exact same_call (Less_any _ _ _)))
            clear hw ht
            go_wp2
            go_roundw
            case rel => exact ⟨k + 1, zs, by omega, by omega, by go_num, hid (hA2.out.drewN _), hl2, hp2, hs3, hid (grown_drewN hg2.out _)⟩
            case measure => simp [intOf]; omega
    · have hkm : k = m := by omega
      rw [hkm] at hs1
      go_wp2
      go_end0
      exact ⟨rfl, ys, hA1.out, hl1.out, hp1.out, hs1.out, hg1.out⟩
end Go.Proofs.Ytgejohkdgcoeeaa
