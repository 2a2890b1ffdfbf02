/-
  Contracts of the model's functions of committed entries that only read: valid lengths, how many have a length, CommitIndex, majorities, CommitLeader, CommitNeeded. No condition but lengths below 2^40.
-/
import Derived.Test.YtgejohkdgcoeeaaCmA
import Derived.Test.YtgejohkdgcoeeaaExA
namespace Go.Proofs.Ytgejohkdgcoeeaa
open Go.RowKit

set_option maxHeartbeats 400000 in
theorem l3Lengths_any {B n c : Nat} {A : Option Addr} {zs : List Int} (w : World) (hr : RdI w B A n zs) (hn : n < 1099511627776) :
    Calls Try.prog 29 #[.slice A n c] w fun e w' => e = .returned (.bool (lvB zs)) ∧ w = w' := by
  have hl' := hid hr.len
  have hr' := hid hr
  clear hr
  go_enter Try.func29, Try.ntmps29
  go_wp2
  go_loop [3] (fun i => ∃ k : Nat, k ≤ n ∧ i = .int .i64 k ∧ Hid (∀ j, j < k → lnB (zs.getD j 0) = true)) (fun i => n - (intOf i).toNat)
  case atStart => exact ⟨0, Nat.zero_le _, rfl, hid (fun j h => by omega)⟩
  case round =>
    obtain ⟨k, hk, rfl, hall⟩ := hrel
    by_cases hlt : k < n
    · obtain ⟨ad, z, rfl, hz, hc⟩ := RdI.at' hr'.out hlt
      by_cases hg : inB z 0 99 = true
      · go_wp2_with (go_at_call 41; (with_reducible refine (l6In_any _ _ _ _).mono ?_); rw [hg]; rintro e w' ⟨rfl, rfl⟩)
        go_round
        case rel => exact ⟨k + 1, by omega, by go_num, hid (fun j hj => by
            by_cases e : j = k
            · subst e; rw [hz.out]; exact hg
            · exact hall.out j (by omega))⟩
        case measure => simp [intOf]; omega
      · have hg' : inB z 0 99 = false := by simpa using hg
        have hbad := hid (lvB_bad (i := k) (by rw [hl'.out]; exact hlt) (by rw [hz.out]; exact hg'))
        clear hg
        go_wp2_with (go_at_call 41; (with_reducible refine (l6In_any _ _ _ _).mono ?_); rw [hg']; rintro e w' ⟨rfl, rfl⟩)
        go_ret
        exact ⟨by rw [hbad.out]; rfl, rfl⟩
    · have hfin := hid (lvB_fin (zs := zs) (fun i hi => hall.out i (by rw [hl'.out] at hi; omega)))
      go_wp2_with (go_at_call 41; (with_reducible refine (l6In_any _ _ _ _).mono ?_); rintro e w' ⟨rfl, rfl⟩)
      go_ret
      exact ⟨by rw [hfin.out, hl'.out]; rfl, rfl⟩

set_option maxHeartbeats 400000 in
theorem l3Having_any {B n c : Nat} {A : Option Addr} {zs : List Int} (x : Int) (w : World) (hr : RdI w B A n zs) (hn : n < 1099511627776) :
    Calls Try.prog 30 #[.slice A n c, .int .i64 x] w fun e w' => e = .returned (.int .i64 (hav zs x : Nat)) ∧ w = w' := by
  have hl' := hid hr.len
  have hr' := hid hr
  clear hr
  go_enter Try.func30, Try.ntmps30
  go_wp2
  go_loop [5, 6] (fun h i => ∃ k q : Nat, k ≤ n ∧ i = .int .i64 k ∧ h = .int .i64 q ∧ q ≤ k ∧ Hid (q = hav (zs.take k) x)) (fun _ i => n - (intOf i).toNat)
  case atStart => exact ⟨0, 0, Nat.zero_le _, rfl, rfl, Nat.le_refl _, hid (by simp [hav])⟩
  case round =>
    obtain ⟨k, q, hk, rfl, rfl, hqk, hq⟩ := hrel
    by_cases hlt : k < n
    · obtain ⟨ad, z, rfl, hz, hc⟩ := RdI.at' hr'.out hlt
      have hs := hid (hav_take_succ x (by rw [hl'.out]; exact hlt) hz.out)
      by_cases hg : x ≤ z
      · have hs' := hid (show q + 1 = hav (zs.take (k + 1)) x by rw [hs.out, if_pos hg, hq.out])
        clear hs
        go_wp2
        go_round
        case rel => exact ⟨k + 1, q + 1, by omega, by go_num, by go_num, by omega, hs'⟩
        case measure => simp [intOf]; omega
      · have hs' := hid (show q = hav (zs.take (k + 1)) x by rw [hs.out, if_neg hg, hq.out]; rfl)
        clear hs
        go_wp2
        go_round
        case rel => exact ⟨k + 1, q, by omega, by go_num, rfl, by omega, hs'⟩
        case measure => simp [intOf]; omega
    · have hfin := hid (show hav zs x = q by rw [hq.out, List.take_of_length_le (by rw [hl'.out]; omega)])
      go_wp2
      go_ret
      exact ⟨ret_int (by rw [hfin.out]), rfl⟩

set_option maxHeartbeats 400000 in
theorem CommitIndex_spec {B n c : Nat} {A : Option Addr} {zs : List Int} (w : World) (hr : RdI w B A n zs) (hn : n < 1099511627776) :
    Calls Try.prog 13 #[.slice A n c] w fun e w' => ∃ r, e = .returned (.int .i64 r) ∧ CixR zs r ∧ w = w' := by
  have hl' := hid hr.len
  have hr' := hid hr
  clear hr
  cases hv : lvB zs with
  | false =>
    have hv' := hid hv
    go_enter Try.func13, Try.ntmps13
    go_wp2_with (go_at_call 29; (with_reducible refine (l3Lengths_any _ hr'.out hn).mono ?_); rw [hv'.out]; rintro e w' ⟨rfl, rfl⟩)
    go_ret
    exact ⟨-1, rfl, ⟨fun h => absurd h (by rw [hv'.out]; decide), fun _ => rfl⟩, rfl⟩
  | true =>
    have hv' := hid hv
    obtain ⟨hp1, hp7, hb⟩ := lvB_true hv
    rw [hl'.out] at hp1 hp7
    have hb' := hid hb
    clear hb
    go_enter Try.func13, Try.ntmps13
    go_wp2_with (go_at_call 29; (with_reducible refine (l3Lengths_any _ hr'.out hn).mono ?_); rw [hv'.out]; rintro e w' ⟨rfl, rfl⟩)
    go_loop [3] (fun i => ∃ k : Nat, k ≤ 99 ∧ i = .int .i64 k ∧ Hid (zs.length < 2 * hav zs (k : Int))) (fun i => 99 - (intOf i).toNat)
    case atStart => exact ⟨0, by omega, rfl, hid (by
      have : hav zs (((0 : Nat) : Int)) = zs.length := hav_pos fun z hz => (hb'.out z hz).1
      rw [this, hl'.out]; omega)⟩
    case round =>
      obtain ⟨k, hk, rfl, hq⟩ := hrel
      by_cases hlt : k < 99
      · have hle := hav_le zs ((k : Int) + 1)
        rw [hl'.out] at hle
        obtain ⟨q, hqq⟩ : ∃ q, hav zs ((k : Int) + 1) = q := ⟨_, rfl⟩
        rw [hqq] at hle
        have hqq' := hid hqq
        clear hqq
        by_cases hg : n < 2 * q
        · go_wp2_with (go_at_call 30; (with_reducible refine (l3Having_any _ _ hr'.out hn).mono ?_); rw [hqq'.out]; rintro e w' ⟨rfl, rfl⟩)
          go_round
          case rel => exact ⟨k + 1, by omega, by go_num, hid (by
            rw [Int.natCast_add, show ((1 : Nat) : Int) = 1 from rfl, hqq'.out, hl'.out]; exact hg)⟩
          case measure => simp [intOf]; omega
        · go_wp2_with (go_at_call 30; (with_reducible refine (l3Having_any _ _ hr'.out hn).mono ?_); rw [hqq'.out]; rintro e w' ⟨rfl, rfl⟩)
          go_ret
          exact ⟨_, rfl, ⟨fun _ => ⟨by omega, by omega, hq.out, .inr (by rw [hqq'.out, hl'.out]; omega)⟩, fun h => by rw [hv'.out] at h; cases h⟩, rfl⟩
      · have hk9 : k = 99 := by omega
        subst hk9
        go_wp2
        go_ret
        exact ⟨_, rfl, ⟨fun _ => ⟨by omega, by omega, hq.out, .inl rfl⟩, fun h => by rw [hv'.out] at h; cases h⟩, rfl⟩

set_option maxHeartbeats 400000 in
theorem CommitNeeded_spec {B n c : Nat} {A : Option Addr} {zs : List Int} (x : Int) (w : World) (hr : RdI w B A n zs) (hn : n < 1099511627776) :
    Calls Try.prog 24 #[.slice A n c, .int .i64 x] w fun e w' => e = .returned (.int .i64 (needR zs x)) ∧ w = w' := by
  have hl' := hid hr.len
  have hr' := hid hr
  clear hr
  cases hv : lvB zs with
  | false =>
    have hv' := hid hv
    have hf := hid (needR_no1 (x := x) hv)
    clear hv
    go_enter Try.func24, Try.ntmps24
    go_wp2_with (go_at_call 29; (with_reducible refine (l3Lengths_any _ hr'.out hn).mono ?_); rw [hv'.out]; rintro e w' ⟨rfl, rfl⟩)
    go_ret
    exact ⟨by rw [hf.out]; rfl, rfl⟩
  | true =>
    have hv' := hid hv
    cases hx : lnB x with
    | false =>
      have hx' : Hid (inB x 0 99 = false) := hid hx
      have hf := hid (needR_no2 (zs := zs) hx)
      clear hv hx
      go_enter Try.func24, Try.ntmps24
      go_wp2_with (first
        | (go_at_call 29; (with_reducible refine (l3Lengths_any _ hr'.out hn).mono ?_); rw [hv'.out]; rintro e w' ⟨rfl, rfl⟩)
        | (go_at_call 41; (with_reducible refine (l6In_any _ _ _ _).mono ?_); rw [hx'.out]; rintro e w' ⟨rfl, rfl⟩))
      go_ret
      exact ⟨by rw [hf.out]; rfl, rfl⟩
    | true =>
      have hx' : Hid (inB x 0 99 = true) := hid hx
      have hle := hav_le zs x
      have h17 := lvB_true hv
      have hf := needR_yes hv hx
      obtain ⟨q, hqq⟩ : ∃ q, hav zs x = q := ⟨_, rfl⟩
      rw [hqq, hl'.out] at hf
      rw [hqq, hl'.out] at hle
      have h1 : 1 ≤ n ∧ n ≤ 7 := by rw [← hl'.out]; exact ⟨h17.1, h17.2.1⟩
      have hqq' := hid hqq
      have hf' := hid hf
      clear hqq hf hv hx h17
      have hm : max ((n : Int) / 2 + 1 - (q : Int)) 0 = if 0 < (n : Int) / 2 + 1 - (q : Int) then (n : Int) / 2 + 1 - (q : Int) else 0 := by
        split <;> omega
      have hm' := hid hm
      clear hm
      go_enter Try.func24, Try.ntmps24
      go_wp2_with (first
        | (go_at_call 29; (with_reducible refine (l3Lengths_any _ hr'.out hn).mono ?_); rw [hv'.out]; rintro e w' ⟨rfl, rfl⟩)
        | (go_at_call 41; (with_reducible refine (l6In_any _ _ _ _).mono ?_); rw [hx'.out]; rintro e w' ⟨rfl, rfl⟩)
        | (go_at_call 30; (with_reducible refine (l3Having_any _ _ hr'.out hn).mono ?_); rw [hqq'.out]; rintro e w' ⟨rfl, rfl⟩))
      all_goals go_ret
      all_goals exact ⟨ret_int (by rw [hf'.out]; first | rfl | omega), rfl⟩

set_option maxHeartbeats 400000 in
theorem l3Live_any {B' n m c d : Nat} {A A' : Option Addr} {live : List Int} (w : World) (hy : RdI w B' A' m live) (hn : n < 1099511627776) (hm : m < 1099511627776) :
    Calls Try.prog 34 #[.slice A n c, .slice A' m d] w fun e w' => e = .returned (.bool (liveB n live)) ∧ Qt w w' := by
  have hl' := hid hy.len
  have hr' := hid hy
  clear hy
  have hw1 : IntKind.i64.wrap ((n : Int) - 1) = (n : Int) - 1 := IntWalk.i64_in _ (by omega)
  go_enter Try.func34, Try.ntmps34
  go_wp2
  go_loopw [5] (fun i wr => ∃ k : Nat, k ≤ m ∧ i = .int .i64 k ∧ Qt w wr ∧ Hid (∀ j, j < k → okLv n live j = true)) (fun i _ => m - (intOf i).toNat)
  case atStart => exact ⟨0, Nat.zero_le _, rfl, Qt.refl _, hid (fun j h => by omega)⟩
  case round =>
    obtain ⟨k, hk, rfl, hq, hall⟩ := hrel
    by_cases hlt : k < m
    · obtain ⟨ad, z, rfl, hz, hc⟩ := RdI.at' (hq.reads hr'.out) hlt
      have hkl := hid (show k < live.length by rw [hl'.out]; exact hlt)
      rcases Nat.eq_zero_or_pos k with h0 | h0
      · have hd : decide (0 < k) = false := by simp; omega
        have H0 := hid h0
        clear h0
        by_cases hg : inB z 0 ((n : Int) - 1) = true
        · have hok := hid (okLv_first H0.out hz.out hg)
          go_wp2
          go_quiet ((go_at_call 41; exact same_call (l6In_any _ _ _ _)))
          go_wp2
          go_roundw
          case rel => exact ⟨k + 1, by omega, by go_num, hq.drewN _, hid (fun j hj => by
              by_cases e : j = k
              · subst e; exact hok.out
              · exact hall.out j (by omega))⟩
          case measure => simp [intOf]; omega
        · have hg' : inB z 0 ((n : Int) - 1) = false := by simpa using hg
          have hbad := hid (liveB_bad hkl.out (okLv_out hz.out hg'))
          clear hg
          go_wp2
          go_quiet ((go_at_call 41; exact same_call (l6In_any _ _ _ _)))
          go_wp2
          go_ret
          exact ⟨ret_bool hbad.out.symm, hq.drewN _⟩
      · have hd : decide (0 < k) = true := by simp; omega
        obtain ⟨ad2, y, e2, hy, hc2⟩ := RdI.at' (hq.reads hr'.out) (k := k - 1) (by omega)
        obtain rfl : ad = ad2 := by injection e2
        clear e2
        have hw : IntKind.i64.wrap ((k : Int) - 1) = (k : Int) - 1 := IntWalk.i64_in _ (by omega)
        have hp : (1 : Int) ≤ (k : Int) := by omega
        have hp' : (0 : Int) ≤ (k : Int) - 1 := by omega
        have ht : ((k : Int) - 1).toNat = k - 1 := by omega
        have hlt' : (k : Int) - 1 < (m : Int) := by omega
        have H0 := hid h0
        by_cases hg : inB z 0 ((n : Int) - 1) = true
        · go_wp2
          go_quiet ((go_at_call 41; exact same_call (l6In_any _ _ _ _)))
          clear hw ht
          go_wp2
          · have h1 : z ≤ y := by assumption
            go_ret
            exact ⟨ret_bool (liveB_bad hkl.out (okLv_no H0.out hz.out hy.out h1)).symm, hq.drewN _⟩
          · have h1 : y < z := by assumption
            go_roundw
            case rel => exact ⟨k + 1, by omega, by go_num, hq.drewN _, hid (fun j hj => by
                by_cases e : j = k
                · subst e; exact okLv_yes hg hz.out hy.out h1
                · exact hall.out j (by omega))⟩
            case measure => simp [intOf]; omega
        · have hg' : inB z 0 ((n : Int) - 1) = false := by simpa using hg
          have hbad := hid (liveB_bad hkl.out (okLv_out hz.out hg'))
          clear hg
          go_wp2
          go_quiet ((go_at_call 41; exact same_call (l6In_any _ _ _ _)))
          clear hw ht
          go_wp2
          go_ret
          exact ⟨ret_bool hbad.out.symm, hq.drewN _⟩
    · have hfin := hid (liveB_fin (m := n) (live := live) (fun i hi => hall.out i (by rw [hl'.out] at hi; omega)))
      clear hw1
      go_wp2
      go_ret
      exact ⟨ret_bool (by rw [hfin.out, hl'.out, decide_eq_decide]; omega), hq⟩

/-- the cell at a place told by an int -/
theorem RdI.atI {w : World} {B n : Nat} {A : Option Addr} {zs : List Int} (h : RdI w B A n zs) {i : Int} (h0 : 0 ≤ i) (h1 : i < n) :
    ∃ (j : Nat) (ad : Addr), i = (j : Int) ∧ j < n ∧ A = some ad ∧ w.cell? (ad.add j) = some (.int .i64 (zs.getD i.toNat 0)) := by
  obtain ⟨j, rfl⟩ := Int.eq_ofNat_of_zero_le h0
  have hj : j < n := by omega
  obtain ⟨ad, e, _, hc⟩ := h.at_ hj
  exact ⟨j, ad, rfl, hj, e, by rw [hc]; simp⟩

set_option maxHeartbeats 1000000 in
theorem CommitLeader_spec {B B' n m c d : Nat} {A A' : Option Addr} {zs live : List Int} (w : World) (hr : RdI w B A n zs) (hy : RdI w B' A' m live) (hn : n < 1099511627776) (hm : m < 1099511627776) :
    Calls Try.prog 16 #[.slice A n c, .slice A' m d] w fun e w' => e = .returned (.int .i64 (ldrR zs live)) ∧ Qt w w' := by
  have hlx := hid hr.len
  have hly := hid hy.len
  have hr' := hid hr
  have hy' := hid hy
  clear hr hy
  cases hv : lvB zs with
  | false =>
    have hv' := hid hv
    have hf := hid (ldrR_no (ldB_no1 (live := live) hv))
    clear hv
    go_enter Try.func16, Try.ntmps16
    go_wp2_with (go_at_call 29; (with_reducible refine (l3Lengths_any _ hr'.out hn).mono ?_); rw [hv'.out]; rintro e w' ⟨rfl, rfl⟩)
    go_ret
    exact ⟨by rw [hf.out]; rfl, Qt.refl _⟩
  | true =>
    have hv' := hid hv
    cases hb : liveB n live with
    | false =>
      have hb' := hid hb
      have hf := hid (ldrR_no (ldB_no2 (zs := zs) (live := live) (by rw [hlx.out]; exact hb)))
      clear hv hb
      go_enter Try.func16, Try.ntmps16
      go_wp2_with (first
        | (go_at_call 29; (with_reducible refine (l3Lengths_any _ hr'.out hn).mono ?_); rw [hv'.out]; rintro e w' ⟨rfl, rfl⟩)
        | (go_at_call 34; (with_reducible refine (l3Live_any _ hy'.out hn hm).mono ?_); rw [hb'.out]; rintro e w2 ⟨rfl, q2⟩))
      go_ret
      exact ⟨by rw [hf.out]; rfl, q2⟩
    | true =>
      have hb' := hid hb
      have hok := hid (liveB_ok hb).2
      have hf := hid (ldrR_yes (ldB_yes hv (show liveB zs.length live = true by rw [hlx.out]; exact hb)))
      have hm1 : 1 ≤ m := by
        have := (liveB_ok hb).1
        rw [hly.out] at this; omega
      clear hv hb
      go_enter Try.func16, Try.ntmps16
      go_wp2_with fail
      refine (l3Lengths_any _ hr'.out hn).mono ?_
      rw [hv'.out]
      rintro e w' ⟨rfl, rfl⟩
      go_wp2_with fail
      refine (l3Live_any _ hy'.out hn hm).mono ?_
      rw [hb'.out]
      rintro e w2 ⟨rfl, q2⟩
      obtain ⟨ad0, z0, rfl, hz0, hc0⟩ := RdI.at' (q2.reads hy'.out) (k := 0) (by omega)
      have hd0 : Hid (live.headD 0 = z0) := hid (by
        have := hz0.out
        cases live with
        | nil => simpa using this
        | cons a l => simpa using this)
      have hc00 : w2.cell? ad0 = some (.int .i64 z0) := hc0
      clear hc0
      go_wp2
      clear hc00
      go_loopw [5, 6] (fun l i wr => ∃ (k : Nat) (g : Int), 1 ≤ k ∧ k ≤ m ∧ i = .int .i64 k ∧ l = .int .i64 g ∧ 0 ≤ g ∧ g < n ∧ Qt w wr ∧ Hid (g = (live.take k).tail.foldl (ldrF zs) (live.headD 0))) (fun _ i _ => m - (intOf i).toNat)
      case atStart =>
        have h1 := okLv_rng (hok.out 0 (by rw [hly.out]; omega))
        rw [hz0.out] at h1
        refine ⟨1, z0, by omega, hm1, rfl, rfl, h1.1, h1.2, q2, hid ?_⟩
        rw [← hd0.out]
        cases live with
        | nil => rfl
        | cons a l => simp
      case round =>
        obtain ⟨k, g, hk1, hk, rfl, rfl, hg0, hg1, hq, hg⟩ := hrel
        by_cases hlt : k < m
        · obtain ⟨ad, z, e1, hz, hc⟩ := RdI.at' (hq.reads hy'.out) hlt
          injection e1 with e1
          subst e1
          have hzr := okLv_rng (hok.out k (by rw [hly.out]; exact hlt))
          rw [hz.out] at hzr
          obtain ⟨hzr0, hzr1⟩ := hzr
          have hs := hid (foldl_tail_succ (ldrF zs) (live.headD 0) hk1 (by rw [hly.out]; exact hlt) hz.out)
          obtain ⟨j, ad2, rfl, hj, rfl, hc2⟩ := RdI.atI (hq.reads hr'.out) hzr0 hzr1
          obtain ⟨j3, ad3, rfl, hj3, e3, hc3⟩ := RdI.atI (hq.reads hr'.out) hg0 hg1
          injection e3 with e3
          subst e3
          obtain ⟨x, hx⟩ : ∃ x, zs.getD ((j : Int)).toNat 0 = x := ⟨_, rfl⟩
          obtain ⟨y, hyy⟩ : ∃ y, zs.getD ((j3 : Int)).toNat 0 = y := ⟨_, rfl⟩
          rw [hx] at hc2
          rw [hyy] at hc3
          have hx' := hid hx
          have hyy' := hid hyy
          clear hx hyy
          by_cases hxy : y < x
          · have hn' : Hid ((j : Int) = (live.take (k + 1)).tail.foldl (ldrF zs) (live.headD 0)) := hid (by
              rw [hs.out, ← hg.out, ldrF, hx'.out, hyy'.out, if_pos hxy])
            clear hs
            go_wp2
            go_quiet (fail)
            go_wp2
            go_roundw
            case rel => exact ⟨k + 1, j, by omega, by omega, by go_num, rfl, by omega, by omega, hq.drewN _, hn'⟩
            case measure => simp [intOf]; omega
          · have hn' : Hid ((j3 : Int) = (live.take (k + 1)).tail.foldl (ldrF zs) (live.headD 0)) := hid (by
              rw [hs.out, ← hg.out, ldrF, hx'.out, hyy'.out, if_neg hxy])
            clear hs
            go_wp2
            go_quiet (fail)
            go_wp2
            go_roundw
            case rel => exact ⟨k + 1, j3, by omega, by omega, by go_num, rfl, by omega, by omega, hq.drewN _, hn'⟩
            case measure => simp [intOf]; omega
        · have hfin : Hid (ldrR zs live = g) := hid (by
            rw [hf.out, ldr, hg.out, List.take_of_length_le (by rw [hly.out]; omega)])
          go_wp2
          go_ret
          exact ⟨ret_int hfin.out.symm, hq⟩
end Go.Proofs.Ytgejohkdgcoeeaa
