/-
  What the laws of traces read: before. No condition.
-/
import Derived.Test.YtdhafappclcijaaTrK
namespace Go.Proofs.Ytdhafappclcijaa
open Go.RowKit
set_option linter.unusedVariables false

theorem hasInt_asT {B n c : Nat} {A : Option Addr} {zs : List Int} {x : Int} {r : Bool} (h : hasB zs x = r) (w : World) (hr : RdI w B A n zs) (hn : n < 1099511627776) :
    Calls Try.prog 20 #[.slice A n c, .int .i64 x] w fun e w' => e = .returned (.bool r) ∧ w = w' := by
  subst h; exact hasInt_any x w hr hn

theorem RdI.cutRT {w : World} {B n k cap : Nat} {ad : Addr} {zs : List Int} (h : RdI w B (some ad) n zs) (hk : k ≤ n) (hc : n ≤ cap) : RdI w B (some (if cap = k then ad else ad.add k)) (n - k) (zs.drop k) := by
  have hl := h.len
  refine ⟨by simp [ints]; omega, fun h0 => ?_⟩
  obtain ⟨ad', e, hb, hcell⟩ := h.2 (by omega)
  injection e with e
  subst e
  rw [if_neg (by omega)]
  refine ⟨_, rfl, by rw [block_of_add]; exact hb, fun j u hu => ?_⟩
  rw [add_of_add]
  exact hcell _ u (by rw [← hu, ints, ints, List.map_drop, List.getElem?_drop])

theorem befB_hit {zs : List Int} {a b : Int} {k : Nat} (hk : k < zs.length) (hz : zs.getD k 0 = a) (hm : ∀ j, j < k → zs.getD j 0 ≠ a) : befB zs a b = hasB (zs.drop (k + 1)) b := by
  have hz' : zs[k]? = some a := getD_of hk hz
  have hmem : zs.contains a = true := by simp; exact List.mem_of_getElem? hz'
  have hidx : zs.idxOf a = k := by
    have e : zs[k] = a := (List.getElem?_eq_some_iff.1 hz').2
    apply Nat.le_antisymm
    · refine Nat.le_of_not_lt fun h => ?_
      have h1 := List.not_of_lt_findIdx (p := fun x => x == a) (xs := zs) (i := k) h
      simp [e] at h1
    · refine Nat.le_of_not_lt fun hlt => ?_
      have hl : zs.idxOf a < zs.length := by omega
      have := hm _ hlt
      apply this
      simp [hl, List.getElem_idxOf]
  rw [befB, hmem, hidx, Bool.true_and, Bool.eq_iff_iff, hasB_mem]
  simp

theorem befB_miss {zs : List Int} {a b : Int} (hm : ∀ j, j < zs.length → zs.getD j 0 ≠ a) : befB zs a b = false := by
  have : zs.contains a = false := by
    rw [Bool.eq_false_iff]
    intro h
    simp at h
    obtain ⟨i, hi, e⟩ := List.getElem_of_mem h
    exact hm i hi (by simp [hi, e])
  rw [befB, this, Bool.false_and]

set_option maxHeartbeats 1000000 in
theorem before_any {B n c : Nat} {A : Option Addr} {zs : List Int} (a b : Int) (w : World) (hr : RdI w B A n zs) (hn : n < 1099511627776) (hnc : n ≤ c) (hc : c ≤ 9223372036854775807) :
    Calls Try.prog 25 #[.slice A n c, .int .i64 a, .int .i64 b] w fun e w' => e = .returned (.bool (befB zs a b)) ∧ w = w' := by
  have hl' := hid hr.len
  have hr' := hid hr
  clear hr
  go_enter Try.func25, Try.ntmps25
  go_wp2
  go_loop [7] (fun i => ∃ k : Nat, k ≤ n ∧ i = .int .i64 k ∧ Hid (∀ j, j < k → zs.getD j 0 ≠ a)) (fun i => n - (intOf i).toNat)
  case atStart => exact ⟨0, Nat.zero_le _, rfl, hid (fun j h => by omega)⟩
  case round =>
    obtain ⟨k, hk, rfl, hmiss⟩ := hrel
    by_cases hlt : k < n
    · obtain ⟨ad, z, rfl, hz, hc0⟩ := hr'.out.at' hlt
      by_cases he : z = a
      · have he' : (z == a) = true := by simp [he]
        have hres := befB_hit (b := b) (k := k) (zs := zs) (by rw [hl'.out]; exact hlt) (by rw [hz.out]; exact he) hmiss.out
        have hres := hid hres
        have hcut := hid (RdI.cutRT (k := k + 1) (cap := c) hr'.out (by omega) hnc)
        go_wp2_with fail
        all_goals
          refine (hasInt_asT (zs := zs.drop (k + 1)) rfl w (B := B) ?_ (by omega)).mono ?_
          · have h9 := hcut.out
            first
              | (rw [if_pos (by omega)] at h9; exact h9)
              | (rw [if_neg (by omega)] at h9; exact h9)
          · rintro e w' ⟨rfl, rfl⟩
            go_wp2
            go_ret
            exact ⟨ret_bool hres.out.symm, rfl⟩
      · have he' : (z == a) = false := by simp [he]
        go_wp2
        go_round
        case rel => exact ⟨k + 1, by omega, by go_num, hid (fun j hj => by
            by_cases e : j = k
            · subst e; rw [hz.out]; exact he
            · exact hmiss.out j (by omega))⟩
        case measure => simp [intOf]; omega
    · go_wp2
      go_ret
      exact ⟨ret_bool (befB_miss (fun i hi => hmiss.out i (by rw [hl'.out] at hi; omega))).symm, rfl⟩
end Go.Proofs.Ytdhafappclcijaa
