/-
  Contracts of the program's linked messages: named, leadTo. No condition but numbers of messages.
-/
import Derived.Test.YtdhafappclcijaaTpA
import Derived.Test.YtdhafappclcijaaMgA
import Derived.Deep.RegionLaw
import Derived.Deep.RegionHeld3
import Derived.Deep.DeepCutAuto
import Derived.RegionTactic
import Derived.BigRegion
namespace Go.Proofs.Ytdhafappclcijaa
open Go.RowKit
set_option linter.unusedVariables false
set_option linter.unusedSimpArgs false

set_option maxHeartbeats 1000000 in
theorem named_old {w : World} {lb k : Nat} {P : Nat → Nat} {S : Nat → Bool} (hl : Lk w lb P S) (hk : k < 12) (sk : S k = true) :
    Calls Try.prog 45 #[.pointer (some ⟨lb, 0, none⟩), .int .i64 k] w fun e w' => e = .returned (.pointer (some ⟨P k, 0, none⟩)) ∧ w = w' := by
  have hc := hl.at_ hk
  rw [pV, pO_true sk] at hc
  have i0 : (0 : Int) ≤ (k : Int) := by omega
  have i1 : (k : Int) < 12 := by omega
  replace hl := hid hl
  replace sk := hid sk
  go_enter Try.func45, Try.ntmps45
  go_wp2
  go_ret
  exact ⟨rfl, rfl⟩

set_option maxHeartbeats 1000000 in
theorem named_new {w : World} {lb lo k : Nat} {P : Nat → Nat} {D : Nat → Bool} {bf af : Nat → Nat → Bool} (hl : Lk w lb P D) (hg : Gr w lo P D bf af) (hlo : lo ≤ lb) (hk : k < 12) (dk : D k = false) :
    Calls Try.prog 45 #[.pointer (some ⟨lb, 0, none⟩), .int .i64 k] w fun e w' => ∃ P', e = .returned (.pointer (some ⟨P' k, 0, none⟩)) ∧ Lk w' lb P' (upB D k true) ∧ Gr w' lo P' (upB D k true) bf af ∧ Below lo w w' := by
  have hc := hl.at_ hk
  have hf := Cs.frozen hl k
  rw [pV, pO_false dk] at hc
  have i0 : (0 : Int) ≤ (k : Int) := by omega
  have i1 : (k : Int) < 12 := by omega
  have hlt := Cs.lt hl
  have hz : (w.setCell ⟨lb, k, none⟩ (.pointer (some ⟨w.heap.size, 0, none⟩))).heap.size = w.heap.size := by simp [World.setCell]
  have hk1 : Kp (fun b => b = lb) w (w.setCell ⟨lb, k, none⟩ (.pointer (some ⟨w.heap.size, 0, none⟩))) := Kp.setCell (S := fun b => b = lb) (p := ⟨lb, k, none⟩) (Kp.refl _ w) (.inr rfl) _
  have hg1 := (hg.kp hk1 fun i hi di e => hg.apart hl (by decide) ⟨i, hi, di, e.symm⟩).new hk dk (by omega)
  rw [hz] at hg1
  have hl1 := (Lk.congr hl (P' := fun j => if j = k then w.heap.size else P j) (S' := D) (fun _ _ => rfl) (fun j hj dj => by
    have : j ≠ k := fun e => by subst e; rw [dk] at dj; cases dj
    simp [this])).put hk true (u := .pointer (some ⟨w.heap.size, 0, none⟩)) (by simp)
  have hnew := hid hg1
  have hlk := hid (Cs.alloc hl1 (.cells (ndC P k noB noB) 46))
  have hb := hid ((hk1.base (by omega : lo ≤ w.heap.size) (fun i e => by omega)).alloc (by rw [hz]; omega) (.cells (ndC P k noB noB) 46))
  clear hg1 hl1 hk1 hz
  replace hl := hid hl
  replace hg := hid hg
  replace dk := hid dk
  go_enter Try.func45, Try.ntmps45
  go_wp2
  go_ret
  exact ⟨_, by simp, hlk.out, hnew.out, hb.out⟩

theorem named_any {w : World} {lb lo k : Nat} {P : Nat → Nat} {D : Nat → Bool} {bf af : Nat → Nat → Bool} (hl : Lk w lb P D) (hg : Gr w lo P D bf af) (hlo : lo ≤ lb) (hk : k < 12) :
    Calls Try.prog 45 #[.pointer (some ⟨lb, 0, none⟩), .int .i64 k] w fun e w' => ∃ P', e = .returned (.pointer (some ⟨P' k, 0, none⟩)) ∧ Lk w' lb P' (upB D k true) ∧ Gr w' lo P' (upB D k true) bf af ∧ Below lo w w' := by
  cases dk : D k with
  | false => exact named_new hl hg hlo hk dk
  | true =>
    refine (named_old hl hk dk).mono ?_
    rintro e w' ⟨rfl, rfl⟩
    have hD : ∀ j, j < 12 → D j = upB D k true j := fun j _ => by
      by_cases e : j = k
      · subst e; rw [up_same, dk]
      · rw [up_other e]
    exact ⟨P, rfl, Lk.congr hl hD (fun _ _ _ => rfl), hg.congrD hD, Below.refl _ _⟩

set_option maxHeartbeats 1000000 in
theorem leadTo_any {w : World} {lo a b : Nat} {P : Nat → Nat} {D : Nat → Bool} {bf af : Nat → Nat → Bool} (hg : Gr w lo P D bf af) (ha : a < 12) (hb : b < 12) (da : D a = true) (db : D b = true) (hab : a ≠ b) :
    Calls Try.prog 46 #[.pointer (some ⟨P a, 0, none⟩), .pointer (some ⟨P b, 0, none⟩)] w fun e w' => e = .returned (.tuple #[]) ∧ Gr w' lo P D (up2 bf b a true) (up2 af a b true) ∧ Kp (GrS P D) w w' := by
  have hna := hg.num ha da
  have hnb := hg.num hb db
  have hca := hg.acell ha da hb
  have hcb := hg.bcell hb db ha
  have hfa := hg.free ha da (13 + b)
  have hfb := hg.free hb db (1 + a)
  have hne : P a ≠ P b := fun e => hab (hg.inj ha hb da db e)
  have a0 : (0 : Int) ≤ (a : Int) := by omega
  have a1 : (a : Int) < 12 := by omega
  have b0 : (0 : Int) ≤ (b : Int) := by omega
  have b1 : (b : Int) < 12 := by omega
  have hu : Value.pointer (if true = true then some (⟨P b, 0, none⟩ : Addr) else none) = .pointer (some ⟨P b, 0, none⟩) := rfl
  have hv : Value.pointer (if true = true then some (⟨P a, 0, none⟩ : Addr) else none) = .pointer (some ⟨P a, 0, none⟩) := rfl
  have g1 := (hg.setA ha hb da db true hu).drew
  have g2 := hid (g1.setB hb ha db da true hv).drew
  have k2 := hid ((((Kp.refl (GrS P D) w).setCell (p := ⟨P a, 13 + b, none⟩) (.inr ⟨a, ha, da, rfl⟩) (.pointer (some ⟨P b, 0, none⟩))).drew.setCell (p := ⟨P b, 1 + a, none⟩) (.inr ⟨b, hb, db, rfl⟩) (.pointer (some ⟨P a, 0, none⟩))).drew)
  have hnb' : ((w.setCell ⟨P a, 13 + b, none⟩ (.pointer (some ⟨P b, 0, none⟩)))).cell? ⟨P a, 0, none⟩ = some (.int .i64 a) := g1.num ha da
  have hcb' := g1.bcell hb db ha
  have hfb' := g1.free hb db (1 + a)
  replace hg := hid hg
  clear g1
  go_enter Try.func46, Try.ntmps46
  go_wp2
  go_region
  go_wp2
  go_region
  go_end0
  exact ⟨rfl, g2.out, k2.out⟩
end Go.Proofs.Ytdhafappclcijaa
