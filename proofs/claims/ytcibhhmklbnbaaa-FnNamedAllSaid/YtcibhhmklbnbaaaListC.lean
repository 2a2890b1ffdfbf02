/-
  Contracts of linked groups: the recursive method linked, impl.GroupsLinked, spec.GroupsLinked. No condition but lengths below 2^40.
-/
import Derived.Test.YtcibhhmklbnbaaaListB
import Derived.Deep.DeepCutAuto
import Derived.Deep.RegionHeld3
namespace Go.Proofs.Ytcibhhmklbnbaaa
open Go.RowKit

theorem stepM_yes {s m : Nat} (h : ¬ s &&& m = 0) : stepM s m = s ||| m := if_neg h

theorem stepM_no {s m : Nat} (h : s &&& m = 0) : stepM s m = s := if_pos h

set_option maxHeartbeats 1000000 in
theorem linked_any {B n c : Nat} {A : Option Addr} {ms : List Nat} (hm : ∀ m, m ∈ ms → m < 32) (hn : n < 1099511627776) : ∀ (f s : Nat) (w : World), RdM w B A n ms → s < 32 → pass ms (passes ms f s) = passes ms f s →
    Calls Try.prog 38 #[.int .u64 (s : Int), .slice A n c] w fun e w' => e = .returned (.int .u64 (passes ms f s : Nat)) ∧ w = w' := by
  intro f
  induction f with
  | zero =>
    intro s w hr hs hfix
    have hl' : Hid (ms.length = n) := hid (by have := hr.1; simpa using this)
    have hr' := hid hr
    have hm' := hid hm
    have hfix' : Hid (pass ms s = s) := hid hfix
    clear hr hm hfix
    go_enter Try.func38, Try.ntmps38
    go_wp2
    go_loop [0, 11] (fun x i => ∃ k t : Nat, k ≤ n ∧ i = .int .i64 k ∧ x = .int .u64 (t : Int) ∧ t < 32 ∧ Hid (t = pass (ms.take k) s)) (fun _ i => n - (intOf i).toNat)
    case atStart => exact ⟨0, s, by omega, rfl, rfl, hs, hid rfl⟩
    case round =>
      obtain ⟨k, t, hk, rfl, rfl, ht, hp⟩ := hrel
      by_cases hlt : k < n
      · obtain ⟨ad, m, rfl, hmm, hc⟩ := RdM.at' hr'.out hlt
        have hm32 : m < 32 := by
          rw [← hmm.out]
          have hkl : k < ms.length := by rw [hl'.out]; exact hlt
          have e : ms.getD k 0 = ms[k] := by simp [hkl]
          rw [e]; exact hm'.out _ (List.getElem_mem hkl)
        have hpt := hid (pass_take (ms := ms) (s := s) (k := k) (by rw [hl'.out]; exact hlt))
        by_cases hz : t &&& m = 0
        · have hne : (((t &&& m : Nat) : Int) != 0) = false := by rw [hz]; rfl
          have hz' := hid hz
          clear hz
          go_wp2_with (go_at_call 26; (with_reducible refine (common_any _ _ ht hm32 _).mono ?_); rintro e w' ⟨rfl, rfl⟩)
          go_round
          case rel => exact ⟨k + 1, t, by omega, by go_num, rfl, ht, hid (by rw [hpt.out, hmm.out, ← hp.out, stepM_no hz'.out])⟩
          case measure => simp [intOf]; omega
        · have hne : (((t &&& m : Nat) : Int) != 0) = true := by simp; omega
          have hz' := hid hz
          clear hz
          go_wp2_with (first
            | (go_at_call 26; (with_reducible refine (common_any _ _ ht hm32 _).mono ?_); rintro e w' ⟨rfl, rfl⟩)
            | (go_at_call 22; (with_reducible refine (union_any _ _ ht hm32 _).mono ?_); rintro e w' ⟨rfl, rfl⟩))
          go_round
          case rel => exact ⟨k + 1, t ||| m, by omega, by go_num, rfl, union_lt32 ht hm32, hid (by rw [hpt.out, hmm.out, ← hp.out, stepM_yes hz'.out])⟩
          case measure => simp [intOf]; omega
      · have e : t = s := by rw [hp.out, List.take_of_length_le (by rw [hl'.out]; omega)]; exact hfix'.out
        have heq : ((t : Int) == (s : Int)) = true := by rw [e]; simp
        have e' := hid e
        clear e
        go_wp2
        go_ret
        exact ⟨ret_int (by rw [e'.out]; rfl), rfl⟩
  | succ f ih =>
    intro s w hr hs hfix
    have hl' : Hid (ms.length = n) := hid (by have := hr.1; simpa using this)
    have hr' := hid hr
    have hm' := hid hm
    have hfix' := hid hfix
    have ih' := hid ih
    clear hr hm hfix ih
    go_enter Try.func38, Try.ntmps38
    go_wp2
    go_loop [0, 11] (fun x i => ∃ k t : Nat, k ≤ n ∧ i = .int .i64 k ∧ x = .int .u64 (t : Int) ∧ t < 32 ∧ Hid (t = pass (ms.take k) s)) (fun _ i => n - (intOf i).toNat)
    case atStart => exact ⟨0, s, by omega, rfl, rfl, hs, hid rfl⟩
    case round =>
      obtain ⟨k, t, hk, rfl, rfl, ht, hp⟩ := hrel
      by_cases hlt : k < n
      · obtain ⟨ad, m, rfl, hmm, hc⟩ := RdM.at' hr'.out hlt
        have hm32 : m < 32 := by
          rw [← hmm.out]
          have hkl : k < ms.length := by rw [hl'.out]; exact hlt
          have e : ms.getD k 0 = ms[k] := by simp [hkl]
          rw [e]; exact hm'.out _ (List.getElem_mem hkl)
        have hpt := hid (pass_take (ms := ms) (s := s) (k := k) (by rw [hl'.out]; exact hlt))
        by_cases hz : t &&& m = 0
        · have hne : (((t &&& m : Nat) : Int) != 0) = false := by rw [hz]; rfl
          have hz' := hid hz
          clear hz
          go_wp2_with (go_at_call 26; (with_reducible refine (common_any _ _ ht hm32 _).mono ?_); rintro e w' ⟨rfl, rfl⟩)
          go_round
          case rel => exact ⟨k + 1, t, by omega, by go_num, rfl, ht, hid (by rw [hpt.out, hmm.out, ← hp.out, stepM_no hz'.out])⟩
          case measure => simp [intOf]; omega
        · have hne : (((t &&& m : Nat) : Int) != 0) = true := by simp; omega
          have hz' := hid hz
          clear hz
          go_wp2_with (first
            | (go_at_call 26; (with_reducible refine (common_any _ _ ht hm32 _).mono ?_); rintro e w' ⟨rfl, rfl⟩)
            | (go_at_call 22; (with_reducible refine (union_any _ _ ht hm32 _).mono ?_); rintro e w' ⟨rfl, rfl⟩))
          go_round
          case rel => exact ⟨k + 1, t ||| m, by omega, by go_num, rfl, union_lt32 ht hm32, hid (by rw [hpt.out, hmm.out, ← hp.out, stepM_yes hz'.out])⟩
          case measure => simp [intOf]; omega
      · have e : t = pass ms s := by rw [hp.out, List.take_of_length_le (by rw [hl'.out]; omega)]
        by_cases hst : pass ms s = s
        · have heq : ((t : Int) == (s : Int)) = true := by rw [beq_iff_eq]; omega
          have e' := hid (e.trans hst)
          have hst' := hid hst
          clear e hst
          go_wp2
          go_ret
          exact ⟨ret_int (by rw [e'.out, passes_stay hst'.out]), rfl⟩
        · have heq : ((t : Int) == (s : Int)) = false := by rw [beq_eq_false_iff_ne]; omega
          have e' := hid e
          clear e hst
          go_wp2_with fail
          refine (ih'.out t w hr'.out ht ?_).mono ?_
          · rw [e'.out]; exact hfix'.out
          rintro e w' ⟨rfl, rfl⟩
          go_wp2
          go_ret
          exact ⟨ret_int (by rw [e'.out]; rfl), rfl⟩

set_option maxHeartbeats 1000000 in
theorem GroupsLinked_impl {n c : Nat} {A : Option Addr} {zss : List (List Int)} (x : Int) (w : World) (hr : RdL w w.heap.size A n zss) (hn : n < 1099511627776) (hsh : Short zss) :
    Calls Try.prog 18 #[.slice A n c, .int .i64 x] w (NewI w (linkedR zss x)) := by
  have hl' := hid hr.1
  have hsh' := hid hsh
  have hr' := hid hr
  clear hr hsh
  cases h1 : setsB zss with
  | false =>
    go_enter Try.func18, Try.ntmps18
    go_wp2_with (go_at_call 31; (with_reducible refine (groupSetList_any _ hr'.out hn hsh'.out).mono ?_); rintro e w1 ⟨v, rfl, hb1, _⟩; rw [h1])
    go_ret
    exact ⟨_, rfl, by rw [linkedR_no1 h1]; exact OwI.empty_lit w1 hb1.size, hb1.alloc hb1.size _⟩
  | true =>
    cases h2 : grB x with
    | false =>
      go_enter Try.func18, Try.ntmps18
      go_wp2_with (first
        | (go_at_call 31; (with_reducible refine (groupSetList_any _ hr'.out hn hsh'.out).mono ?_); rintro e w1 ⟨v, rfl, hb1, _⟩; rw [h1])
        | (go_at_call 32; (with_reducible refine (groupExists_any _ _).mono ?_); rw [h2]; rintro e w2 ⟨rfl, rfl⟩))
      go_ret
      exact ⟨_, rfl, by rw [linkedR_no2 h2]; exact OwI.empty_lit w1 hb1.size, hb1.alloc hb1.size _⟩
    | true =>
      have hml : Hid ((masks zss).length = n) := hid (by rw [masks, List.length_map, hl'.out])
      have hp32 := pow_lt32 h2
      have hlin := hid (passes_fix (masks_lt h1) 5 (2 ^ x.toNat) hp32 (by omega))
      have hl32 := hid (passes_lt (masks_lt h1) 5 hp32)
      go_enter Try.func18, Try.ntmps18
      go_wp2_with fail
      refine (groupSetList_any _ hr'.out hn hsh'.out).mono ?_
      rintro e w1 ⟨v, rfl, hb1, ho⟩
      rw [h1]
      have hom := ho h1
      clear ho
      obtain ⟨Am, cm, rfl, hrm⟩ := OwM.form hom
      rw [hml.out]
      have hrm' : Hid (RdM w1 w1.heap.size Am n (masks zss)) := hid (by rw [hml.out] at hrm; exact hrm)
      have hb1' := hid hb1
      have hsz1 := hb1.size
      clear hom hrm hb1
      go_wp2_with fail
      refine (groupExists_any _ _).mono ?_
      rw [h2]
      rintro e w2 ⟨rfl, rfl⟩
      go_wp2_with fail
      refine (with_any 0 x (by omega) h2 _).mono ?_
      rw [Nat.zero_or]
      rintro e w2 ⟨rfl, rfl⟩
      go_wp2_with fail
      refine (linked_any (masks_lt h1) hn 5 _ _ hrm'.out hp32 hlin.out).mono ?_
      rintro e w2 ⟨rfl, rfl⟩
      go_wp2_with fail
      refine (groups_any _ hl32.out _).mono ?_
      rintro e w2 ⟨v, rfl, hown, hbel⟩
      go_wp2
      go_ret
      exact ⟨_, rfl, by rw [linkedR_yes h1 h2]; exact hown.more hsz1, hb1'.out.trans (hbel.mono hsz1)⟩

end Go.Proofs.Ytcibhhmklbnbaaa
