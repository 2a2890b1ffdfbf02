/-
  Contracts of the program's linked messages: first, remove; TraceOrder. No condition but lengths below 2^40.
-/
import Derived.Test.YtdhafappclcijaaTpC
namespace Go.Proofs.Ytdhafappclcijaa
open Go.RowKit
set_option linter.unusedVariables false
set_option linter.unusedSimpArgs false

/-- the smallest message of S that none of bf is before -/
def fiB (S : Nat → Bool) (bf : Nat → Nat → Bool) : Option Nat := (List.range 12).find? fun k => S k && emB (bf k)

def fiO (P : Nat → Nat) : Option Nat → Option Addr
  | some k => some ⟨P k, 0, none⟩
  | none => none

theorem fiB_at {S : Nat → Bool} {bf : Nat → Nat → Bool} {k : Nat} (hk : k < 12) (hS : S k = true) (hb : emB (bf k) = true) (hno : ∀ j, j < k → (S j && emB (bf j)) = false) : fiB S bf = some k := by
  unfold fiB
  rw [List.find?_eq_some_iff_getElem]
  refine ⟨by simp [hS, hb], k, by simpa using hk, by simp, fun j hj => ?_⟩
  have := hno j hj
  simp only [List.getElem_range]
  rw [this]; rfl

theorem fiB_none {S : Nat → Bool} {bf : Nat → Nat → Bool} (hno : ∀ j, j < 12 → (S j && emB (bf j)) = false) : fiB S bf = none := by
  unfold fiB
  rw [List.find?_eq_none]
  intro j hj
  have := hno j (by simpa using hj)
  rw [this]; simp

theorem run_index_links {k : Nat} (hk : k < 12) (P : Nat → Nat) (S : Nat → Bool) (w : World) : (Instr.index 42 (.agg (lkC P S)) (.int .i64 (k : Int))).run Try.prog w = .ok (pV P S k) w := by
  have hu : Try.prog.underlying 42 = some (.array 12 40) := by kernel_rfl
  have he : Try.prog.underlying 40 = some (.pointer 46) := by kernel_rfl
  have hs : (sizeOf 40).run Try.prog w = .ok 1 w := by kernel_rfl
  have h2 : (part 40 (lkC P S) (k * 1)).run Try.prog w = .ok (pV P S k) w := by
    have h3 := lkC_get (P := P) (S := S) hk
    rw [Nat.mul_one]
    generalize lkC P S = L at h3 ⊢
    simp [part, isAgg, run_underlying he, h3]
  unfold Instr.index
  generalize lkC P S = L at h2 ⊢
  simp only [asIntOf, Sem.run_bind, Sem.run_pure, Result.andThen_ok, run_underlying hu]
  rw [if_pos ⟨by omega, by omega⟩]
  simp only [Sem.run_bind, hs, Result.andThen_ok, Int.toNat_natCast]
  exact h2

set_option maxHeartbeats 2000000 in
theorem first_any {w : World} {lo : Nat} {P : Nat → Nat} {S D : Nat → Bool} {bf af : Nat → Nat → Bool} (hg : Gr w lo P D bf af) (hS : ∀ k, k < 12 → S k = true → D k = true) :
    Calls Try.prog 33 #[.agg (lkC P S)] w fun e w' => e = .returned (.pointer (fiO P (fiB S bf))) ∧ Below w.heap.size w w' := by
  have hB := hid (below1 w (.cells (lkC P S) 42))
  have hG := hid (hg.alloc (.cells (lkC P S) 42))
  have hS' := hid hS
  clear hg hS
  go_enter Try.func33, Try.ntmps33
  go_wp2
  generalize hW : w.alloc _ = W
  rw [hW] at hB hG
  clear hW
  go_loop [6] (fun i => ∃ k : Nat, k ≤ 12 ∧ i = .int .i64 k ∧ Hid (∀ j, j < k → (S j && emB (bf j)) = false)) (fun i => 12 - (intOf i).toNat)
  case atStart => exact ⟨0, by omega, rfl, hid (fun j h => by omega)⟩
  case round =>
    obtain ⟨k, hk, rfl, hno⟩ := hrel
    by_cases hlt : k < 12
    · have i0 : (0 : Int) ≤ (k : Int) := by omega
      have i1 : (k : Int) < 12 := by omega
      have hix := run_index_links hlt P S
      cases sk : S k with
      | false =>
        rw [pV, pO_false sk] at hix
        have hn2 := hid (fun j (hj : j < k + 1) => show (S j && emB (bf j)) = false by
          by_cases e : j = k
          · subst e; simp [sk]
          · exact hno.out j (by omega))
        go_wp2
        go_round
        case rel => exact ⟨k + 1, by omega, by go_num, hn2⟩
        case measure => simp [intOf]; omega
      | true =>
        rw [pV, pO_true sk] at hix
        obtain ⟨c0, c1, c2, c3, c4, c5, c6, c7, c8, c9, c10, c11⟩ := hG.out.all_b hlt (hS'.out k hlt sk)
        have hcmp := run_links_eql P (bf k)
        cases hb : emB (bf k) with
        | false =>
          have hn2 := hid (fun j (hj : j < k + 1) => show (S j && emB (bf j)) = false by
            by_cases e : j = k
            · subst e; simp [sk, hb]
            · exact hno.out j (by omega))
          rw [hb] at hcmp
          go_wp2
          go_round
          case rel => exact ⟨k + 1, by omega, by go_num, hn2⟩
          case measure => simp [intOf]; omega
        | true =>
          have hf := hid (fiB_at hlt sk hb hno.out)
          rw [hb] at hcmp
          go_wp2
          go_ret
          exact ⟨by rw [hf.out]; rfl, hB.out⟩
    · obtain rfl : k = 12 := by omega
      have hf := hid (fiB_none (S := S) (bf := bf) hno.out)
      go_wp2
      go_ret
      exact ⟨by rw [hf.out]; rfl, hB.out⟩
/-- bf with a taken away at the first i messages -/
def bfi (bf : Nat → Nat → Bool) (a i : Nat) (k j : Nat) : Bool := bf k j && !(decide (j = a) && decide (k < i))

theorem bfi_zero {bf : Nat → Nat → Bool} {a : Nat} (k j : Nat) : bf k j = bfi bf a 0 k j := by simp [bfi]

theorem bfi_no {bf : Nat → Nat → Bool} {a i : Nat} (h : bf i a = false) (k j : Nat) : bfi bf a i k j = bfi bf a (i + 1) k j := by
  unfold bfi
  by_cases e : j = a
  · subst e
    by_cases e2 : k = i
    · subst e2; simp [h]
    · have : decide (k < i) = decide (k < i + 1) := decide_eq_decide.2 (by omega)
      rw [this]
  · simp [e]

theorem bfi_yes {bf : Nat → Nat → Bool} {a i : Nat} (k j : Nat) : up2 (bfi bf a i) i a false k j = bfi bf a (i + 1) k j := by
  unfold bfi up2
  by_cases e : k = i ∧ j = a
  · obtain ⟨rfl, rfl⟩ := e; simp
  · rw [if_neg e]
    show (bf k j && !(decide (j = a) && decide (k < i))) = _
    by_cases e1 : j = a
    · have e2 : k ≠ i := fun h => e ⟨h, e1⟩
      have : decide (k < i) = decide (k < i + 1) := decide_eq_decide.2 (by omega)
      rw [this]
    · simp [e1]

theorem bfi_end {bf : Nat → Nat → Bool} {a : Nat} (k j : Nat) (hk : k < 12) : bfi bf a 12 k j = (bf k j && !decide (j = a)) := by
  unfold bfi; simp [hk]

set_option maxHeartbeats 4000000 in
theorem remove_any {w : World} {lb lo a : Nat} {P : Nat → Nat} {S D : Nat → Bool} {bf af : Nat → Nat → Bool} (hl : Lk w lb P S) (hg : Gr w lo P D bf af) (ha : a < 12) (da : D a = true) (hba : ∀ k, k < 12 → bf k a = true → af a k = true) :
    Calls Try.prog 34 #[.pointer (some ⟨lb, 0, none⟩), .pointer (some ⟨P a, 0, none⟩)] w fun e w' => e = .returned (.tuple #[]) ∧ Lk w' lb P (upB S a false) ∧ Gr w' lo P D (fun k j => bf k j && !decide (j = a)) af ∧ Kp (fun b => b = lb ∨ GrS P D b) w w' := by
  have hna := hg.num ha da
  have hlc := hl.at_ ha
  have hlf := Cs.frozen hl a
  have a0 : (0 : Int) ≤ (a : Int) := by omega
  have a1 : (a : Int) < 12 := by omega
  obtain ⟨W1, hW1⟩ : ∃ W1, (w.setCell ⟨lb, a, none⟩ (.pointer none)).drew = W1 := ⟨_, rfl⟩
  have hK1 := hid (show Kp (fun b => b = lb ∨ GrS P D b) w W1 by rw [← hW1]; exact ((Kp.refl _ w).setCell (p := ⟨lb, a, none⟩) (.inr (.inl rfl)) (.pointer none)).drew)
  have hl1 := hid (show Lk W1 lb P (upB S a false) by rw [← hW1]; exact Cs.drew (hl.put ha false (u := .pointer none) (by simp)))
  have hg1 := hid (show Gr W1 lo P D (bfi bf a 0) af by
    rw [← hW1]
    refine Gr.congr (Gr.drew (hg.kp (S := fun b => b = lb) (Kp.setCell (S := fun b => b = lb) (p := ⟨lb, a, none⟩) (Kp.refl _ w) (.inr rfl) (.pointer none)) fun i hi di e => hg.apart hl (by decide) ⟨i, hi, di, e.symm⟩)) (fun k j _ _ => bfi_zero k j) (fun _ _ _ _ => rfl))
  have hne := hid (show ¬ GrS P D lb from hg.apart hl (by decide))
  replace hW1 := hid hW1
  replace hba := hid hba
  replace hl := hid hl
  replace hg := hid hg
  go_enter Try.func34, Try.ntmps34
  go_wp2
  go_region
  rw [hW1.out]
  clear hW1 hlc hlf hna
  obtain ⟨c0, c1, c2, c3, c4, c5, c6, c7, c8, c9, c10, c11⟩ := hg1.out.all_a ha da
  go_wp2
  clear c0 c1 c2 c3 c4 c5 c6 c7 c8 c9 c10 c11
  go_loopw [17] (fun i wr => ∃ (k : Nat), k ≤ 12 ∧ i = .int .i64 k ∧ Hid (Lk wr lb P (upB S a false)) ∧ Hid (Gr wr lo P D (bfi bf a k) af) ∧ Hid (Kp (fun b => b = lb ∨ GrS P D b) w wr)) (fun i _ => 12 - (intOf i).toNat)
  case atStart => exact ⟨0, by omega, rfl, hl1, hg1, hK1⟩
  case round =>
    clear hl1 hg1 hK1 hl hg
    obtain ⟨k, hk, rfl, hL, hG, hK⟩ := hrel
    by_cases hlt : k < 12
    · have i0 : (0 : Int) ≤ (k : Int) := by omega
      have i1 : (k : Int) < 12 := by omega
      have hix := run_index_links hlt P (af a)
      cases sk : af a k with
      | false =>
        rw [pV, pO_false sk] at hix
        have hno : bf k a = false := by
          cases e : bf k a with
          | false => rfl
          | true => rw [hba.out k hlt e] at sk; cases sk
        have hG2 := hid (hG.out.congr (bf' := bfi bf a (k + 1)) (fun x j _ _ => bfi_no hno x j) (fun _ _ _ _ => rfl))
        clear hG hno
        go_wp2
        go_roundw
        case rel => exact ⟨k + 1, by omega, by go_num, hL, hG2, hK⟩
        case measure => simp [intOf]; omega
      | true =>
        rw [pV, pO_true sk] at hix
        have dk := (hG.out.aD a k ha hlt sk).2
        have hna := hG.out.num ha da
        have hcb := hG.out.bcell hlt dk ha
        have hfb := hG.out.free hlt dk (1 + a)
        obtain ⟨W2, hW2⟩ : ∃ W2, (wr.setCell ⟨P k, 1 + a, none⟩ (.pointer none)).drew = W2 := ⟨_, rfl⟩
        have hG2 := hid (show Gr W2 lo P D (bfi bf a (k + 1)) af by
          rw [← hW2]
          exact ((hG.out.setB hlt ha dk da false (u := .pointer none) (by simp)).drew).congr (fun x j _ _ => bfi_yes x j) (fun _ _ _ _ => rfl))
        have hK2 := hid (show Kp (fun b => b = lb ∨ GrS P D b) w W2 by
          rw [← hW2]
          exact (hK.out.setCell (p := ⟨P k, 1 + a, none⟩) (.inr (.inr ⟨k, hlt, dk, rfl⟩)) (.pointer none)).drew)
        have hL2 := hid (show Lk W2 lb P (upB S a false) by
          rw [← hW2]
          exact Cs.drew (Cs.far hL.out (p := ⟨P k, 1 + a, none⟩) (fun e => hne.out ⟨k, hlt, dk, e⟩) _))
        replace hW2 := hid hW2
        clear hG hK hL dk
        go_wp2
        go_region
        rw [hW2.out]
        clear hW2 hcb hfb hna
        go_wp2
        go_roundw
        case rel => exact ⟨k + 1, by omega, by go_num, hL2, hG2, hK2⟩
        case measure => simp [intOf]; omega
    · obtain rfl : k = 12 := by omega
      have hG2 := hid (hG.out.congr (bf' := fun k j => bf k j && !decide (j = a)) (fun x j hx _ => bfi_end x j hx) (fun _ _ _ _ => rfl))
      clear hG
      go_wp2
      go_end0
      exact ⟨rfl, hL.out, hG2.out, hK.out⟩
end Go.Proofs.Ytdhafappclcijaa
