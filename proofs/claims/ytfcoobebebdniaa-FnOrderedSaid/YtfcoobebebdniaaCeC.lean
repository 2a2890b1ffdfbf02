/-
  Contracts of the program's readers of credits: waits, valid, freeValid, CreditsValid, hasSender. No condition but lengths below 2^40.
-/
import Derived.Test.YtfcoobebebdniaaCdE
import Derived.Test.YtfcoobebebdniaaMgA
import Derived.Deep.DeepCutAuto
namespace Go.Proofs.Ytfcoobebebdniaa
open Go.RowKit
set_option linter.unusedVariables false
set_option linter.unusedSimpArgs false

theorem getDq {zs : List Int} {k : Nat} {z : Int} (hk : k < zs.length) (h : zs.getD k 0 = z) : zs[k]? = some z := by
  rw [← h]; simp [hk]

set_option maxHeartbeats 1000000 in
theorem IndexI_any {B n c : Nat} {A : Option Addr} {zs : List Int} (z : Int) (w : World) (hr : RdI w B A n zs) (hn : n < 1099511627776) :
    Calls Try.prog 73 #[.slice A n c, .int .i64 z] w fun e w' => (∃ k : Int, e = .returned (.int .i64 k) ∧ decide (k ≥ 0) = hasB zs z) ∧ w = w' := by
  have hl' := hid hr.len
  have hr' := hid hr
  clear hr
  go_enter Try.func73, Try.ntmps73
  go_wp2
  go_loop [8] (fun i => ∃ k : Nat, k ≤ n ∧ i = .int .i64 k ∧ Hid (∀ j, j < k → zs[j]? ≠ some z)) (fun i => n - (intOf i).toNat)
  case atStart => exact ⟨0, Nat.zero_le _, rfl, hid (fun j h => by omega)⟩
  case round =>
    obtain ⟨k, hk, rfl, hall⟩ := hrel
    by_cases hlt : k < n
    · obtain ⟨ad, y, rfl, hy, hcy⟩ := RdI.at' hr'.out hlt
      have i0 : (0 : Int) ≤ (k : Int) := by omega
      have i1 : (k : Int) < (n : Int) := by omega
      have hyg := hid (getDq (by rw [hl'.out]; exact hlt) hy.out)
      clear hy
      by_cases e : y = z
      · have e2 : (z == y) = true := by rw [beq_iff_eq]; exact e.symm
        have R : Hid (hasB zs z = true) := hid (hasB_iff.2 (by rw [← e]; exact List.mem_of_getElem? hyg.out))
        replace e := hid e
        go_wp2
        go_ret
        exact ⟨⟨k, rfl, by rw [R.out]; simp⟩, rfl⟩
      · have e2 : (z == y) = false := by rw [beq_eq_false_iff_ne]; exact fun h => e h.symm
        replace e := hid e
        go_wp2
        go_round
        case rel => exact ⟨k + 1, by omega, by go_num, hid (fun j hj hz => by
              by_cases h : j = k
              · subst h
                rw [hyg.out] at hz
                injection hz with hz
                exact e.out hz
              · exact hall.out j (by omega) hz)⟩
        case measure => simp [intOf]; omega
    · have hkn : ¬ ((k : Int) < (n : Int)) := by omega
      have R : Hid (hasB zs z = false) := hid (by
        rw [Bool.eq_false_iff]
        intro h
        obtain ⟨j, hj, e⟩ := List.getElem_of_mem (hasB_iff.1 h)
        exact hall.out j (by rw [hl'.out] at hj; omega) (by rw [List.getElem?_eq_getElem hj, e]))
      go_wp2
      go_ret
      exact ⟨⟨-1, rfl, by rw [R.out]; simp⟩, rfl⟩

set_option maxHeartbeats 400000 in
theorem ContainsI_any {B n c : Nat} {A : Option Addr} {zs : List Int} (z : Int) (w : World) (hr : RdI w B A n zs) (hn : n < 1099511627776) :
    Calls Try.prog 58 #[.slice A n c, .int .i64 z] w fun e w' => e = .returned (.bool (hasB zs z)) ∧ w = w' := by
  have h' := hid hr
  clear hr
  go_enter Try.func58, Try.ntmps58
  go_wp2_with fail
  refine (IndexI_any z _ h'.out hn).mono ?_
  rintro e w1 ⟨⟨k, rfl, hk⟩, rfl⟩
  have R := hid hk
  clear hk
  go_wp2
  go_ret
  exact ⟨by rw [← R.out]; rfl, rfl⟩

theorem ContainsI_as {B n c : Nat} {A : Option Addr} {zs : List Int} {z : Int} {r : Bool} (h : hasB zs z = r) (w : World) (hr : RdI w B A n zs) (hn : n < 1099511627776) :
    Calls Try.prog 58 #[.slice A n c, .int .i64 z] w fun e w' => e = .returned (.bool r) ∧ w = w' := by
  subst h; exact ContainsI_any z w hr hn

set_option maxHeartbeats 400000 in
theorem waits_any {v : Value} (x : Int) (w : World) (hv : ∃ A m c, v = .slice A m c) :
    Calls Try.prog 57 #[hoV v x] w fun e w' => e = .returned (.bool (decide (0 ≤ x))) ∧ Below w.heap.size w w' := by
  obtain ⟨A, m, c, rfl⟩ := hv
  have hB := hid (below1 w (.cells #[.slice A m c, .int .i64 x] 33))
  go_enter Try.func57, Try.ntmps57
  go_wp2
  go_ret
  exact ⟨ret_bool rfl, hB.out⟩

theorem waits_as {A : Option Addr} {m c : Nat} {x : Int} {r : Bool} (h : decide (0 ≤ x) = r) (w : World) :
    Calls Try.prog 57 #[hoV (.slice A m c) x] w fun e w' => e = .returned (.bool r) ∧ Below w.heap.size w w' := by
  subst h; exact waits_any x w ⟨_, _, _, rfl⟩

theorem GroupsValid_ias {B n c : Nat} {A : Option Addr} {zs : List Int} {r : Bool} (h : gvalid zs = r) (w : World) (hr : RdI w B A n zs) (hn : n < 1099511627776) :
    Calls Try.prog 70 #[.slice A n c] w fun e w' => e = .returned (.bool r) ∧ w = w' := by
  subst h; exact GroupsValid_impl w hr hn

theorem groupExists_as {n : Int} {r : Bool} (h : grB n = r) (w : World) :
    Calls Try.prog 55 #[.int .i64 n] w fun e w' => e = .returned (.bool r) ∧ w = w' := by
  subst h; exact groupExists_any n w

theorem ho_set {fr zs : List Int} {x : Int} (h : setB zs = false) : hoB fr (zs, x) = false := by unfold hoB; simp only [h]; rfl

theorem ho_no {fr zs : List Int} (h : setB zs = true) : hoB fr (zs, -1) = true := by unfold hoB; simp [h, inB]

theorem ho_gr {fr zs : List Int} {x : Int} (h1 : x ≠ -1) (h : grB x = false) : hoB fr (zs, x) = false := by
  have h2 : ¬ (0 ≤ x ∧ x ≤ 4) := fun e => by rw [grB_true.2 e] at h; cases h
  have : inB x (-1) 4 = false := by
    rw [Bool.eq_false_iff]
    intro e
    have := inB_true.1 e
    omega
  unfold hoB; simp only [this]; simp

theorem ho_q {fr zs : List Int} {q : Nat} {y : Int} (h : setB zs = true) (hq : q < 5) (hy : fr.getD q 0 = y) (h0 : 0 ≤ y) : hoB fr (zs, (q : Int)) = (decide (y = 0) && !hasB zs (q : Int)) := by
  have h1 : inB (q : Int) (-1) 4 = true := inB_true.2 (by omega)
  have h2 : decide (0 < y) = !decide (y = 0) := by
    rw [Bool.eq_iff_iff]; simp; omega
  unfold hoB; simp only [h, h1, Int.toNat_natCast, hy, h2]
  cases decide (y = 0) <;> simp

set_option maxHeartbeats 4000000 in
theorem Hold_valid_any {A1 Ai : Option Addr} {n1 c1 m ci : Nat} {fr zs : List Int} (x : Int) (w : World) (hf : frB fr = true) (hr : RdI w w.heap.size A1 n1 fr) (hs : RdI w w.heap.size Ai m zs) (hm : m < 1099511627776) :
    Calls Try.prog 45 #[hoV (.slice Ai m ci) x, .slice A1 n1 c1] w fun e w' => e = .returned (.bool (hoB fr (zs, x))) ∧ Below w.heap.size w w' := by
  obtain ⟨W, hW⟩ : ∃ W, w.alloc (.cells #[.slice Ai m ci, .int .i64 x] 33) = W := ⟨_, rfl⟩
  have hB := hid (show Below w.heap.size w W by rw [← hW]; exact below1 w _)
  have hC := hid (show Cs W w.heap.size 33 #[.slice Ai m ci, .int .i64 x] by rw [← hW]; exact Cs.new w _ _)
  have hF := hid (show RdI W w.heap.size A1 n1 fr by rw [← hW]; exact Reads.alloc hr (Nat.le_refl _) _)
  have hS := hid (show RdI W w.heap.size Ai m zs by rw [← hW]; exact Reads.alloc hs (Nat.le_refl _) _)
  have hl := hid hs.len
  have hl1 := hid hr.len
  have hf' := hid (frB_true.1 hf)
  obtain ⟨d0, d1, -, -⟩ := hC.out.two
  replace hW := hid hW
  clear hr hs hf
  cases hset : setB zs with
  | false =>
    have hno := hid (ho_set (fr := fr) (x := x) hset)
    have hm0 : 0 < m := by
      rcases Nat.eq_zero_or_pos m with e | e
      · have : setB zs = true := by unfold setB; rw [hl.out, e]; rfl
        rw [hset] at this; cases this
      · exact e
    have hg := hid (show gvalid zs = false by
      unfold setB at hset
      rw [Bool.or_eq_false_iff] at hset
      exact hset.2)
    have g0 : (0 : Int) < (m : Int) := by omega
    clear hset hm0
    go_enter Try.func45, Try.ntmps45
    go_upto_region 1 with (fail)
    rw [hW.out]
    go_wp2_with (go_at_call 70; (with_reducible refine (GroupsValid_ias hg.out _ hS.out hm).mono ?_); rintro e w1 ⟨rfl, rfl⟩)
    go_ret
    exact ⟨ret_bool hno.out.symm, hB.out⟩
  | true =>
    have hset' := hid hset
    have hgv := hid (show m ≠ 0 → gvalid zs = true from fun h => by
      unfold setB at hset
      rw [Bool.or_eq_true, decide_eq_true_iff] at hset
      rcases hset with e | e
      · rw [hl.out] at e; exact absurd e h
      · exact e)
    clear hset
    by_cases hx : x = -1
    · subst hx
      have hyes := hid (ho_no (fr := fr) hset'.out)
      by_cases hm0 : m = 0
      · have g0 : ¬ ((0 : Int) < (m : Int)) := by omega
        clear hm0
        go_enter Try.func45, Try.ntmps45
        go_upto_region 1 with (fail)
        rw [hW.out]
        go_wp2
        go_ret
        exact ⟨ret_bool hyes.out.symm, hB.out⟩
      · have g0 : (0 : Int) < (m : Int) := by omega
        have hg := hid (hgv.out hm0)
        clear hm0
        go_enter Try.func45, Try.ntmps45
        go_upto_region 1 with (fail)
        rw [hW.out]
        go_wp2_with (go_at_call 70; (with_reducible refine (GroupsValid_ias hg.out _ hS.out hm).mono ?_); rintro e w1 ⟨rfl, rfl⟩)
        go_ret
        exact ⟨ret_bool hyes.out.symm, hB.out⟩
    · have hxb : (x == -1) = false := by rw [beq_eq_false_iff_ne]; exact hx
      cases hgr : grB x with
      | false =>
        have hno := hid (ho_gr (fr := fr) (zs := zs) hx hgr)
        have hgr' := hid hgr
        replace hx := hid hx
        clear hgr
        by_cases hm0 : m = 0
        · have g0 : ¬ ((0 : Int) < (m : Int)) := by omega
          clear hm0
          go_enter Try.func45, Try.ntmps45
          go_upto_region 1 with (fail)
          rw [hW.out]
          go_wp2_with (go_at_call 55; (with_reducible refine (groupExists_as hgr'.out _).mono ?_); rintro e w1 ⟨rfl, rfl⟩)
          go_ret
          exact ⟨ret_bool hno.out.symm, hB.out⟩
        · have g0 : (0 : Int) < (m : Int) := by omega
          have hg := hid (hgv.out hm0)
          clear hm0
          go_enter Try.func45, Try.ntmps45
          go_upto_region 1 with (fail)
          rw [hW.out]
          go_wp2_with (first | (go_at_call 70; (with_reducible refine (GroupsValid_ias hg.out _ hS.out hm).mono ?_); rintro e w1 ⟨rfl, rfl⟩) | (go_at_call 55; (with_reducible refine (groupExists_as hgr'.out _).mono ?_); rintro e w1 ⟨rfl, rfl⟩))
          go_ret
          exact ⟨ret_bool hno.out.symm, hB.out⟩
      | true =>
        have hgr' := hid hgr
        obtain ⟨h0, h4⟩ := grB_true.1 hgr
        obtain ⟨q, rfl⟩ := Int.eq_ofNat_of_zero_le h0
        have hq5 : q < 5 := by omega
        have hqn : q < n1 := by rw [← hl1.out, hf'.out.1]; exact hq5
        obtain ⟨ad, y, e9, hy, hcy⟩ := RdI.at' hF.out hqn
        subst e9
        have hy0 := (hf'.out.2 q hq5).1
        have hkey := hid (ho_q hset'.out hq5 hy.out (by rw [hy.out] at hy0; exact hy0))
        have x0 : (0 : Int) ≤ (q : Int) := by omega
        have x1 : (q : Int) < (n1 : Int) := by omega
        cases hh : hasB zs (q : Int)
        all_goals
          have hh' := hid hh
          rw [hh] at hkey
          replace hx := hid hx
          clear hgr h0 h4 hh hy hy0
          by_cases hm0 : m = 0
          · have g0 : ¬ ((0 : Int) < (m : Int)) := by omega
            clear hm0
            go_enter Try.func45, Try.ntmps45
            go_upto_region 1 with (fail)
            rw [hW.out]
            go_wp2_with (first | (go_at_call 55; (with_reducible refine (groupExists_as hgr'.out _).mono ?_); rintro e w1 ⟨rfl, rfl⟩) | (go_at_call 58; (with_reducible refine (ContainsI_as hh'.out _ hS.out hm).mono ?_); rintro e w1 ⟨rfl, rfl⟩))
            all_goals
              go_ret
              exact ⟨ret_bool (by rw [hkey.out]; simp_all), hB.out⟩
          · have g0 : (0 : Int) < (m : Int) := by omega
            have hg := hid (hgv.out hm0)
            clear hm0
            go_enter Try.func45, Try.ntmps45
            go_upto_region 1 with (fail)
            rw [hW.out]
            go_wp2_with (first | (go_at_call 70; (with_reducible refine (GroupsValid_ias hg.out _ hS.out hm).mono ?_); rintro e w1 ⟨rfl, rfl⟩) | (go_at_call 55; (with_reducible refine (groupExists_as hgr'.out _).mono ?_); rintro e w1 ⟨rfl, rfl⟩) | (go_at_call 58; (with_reducible refine (ContainsI_as hh'.out _ hS.out hm).mono ?_); rintro e w1 ⟨rfl, rfl⟩))
            all_goals
              go_ret
              exact ⟨ret_bool (by rw [hkey.out]; simp_all), hB.out⟩
end Go.Proofs.Ytfcoobebebdniaa
