/-
  Contracts of the model's readers of traces: l21List, TracesValid, l21Next. No condition but lengths below 2^40.
-/
import Derived.Test.YtdhafappclcijaaTrB
import Derived.Test.YtdhafappclcijaaMgA
namespace Go.Proofs.Ytdhafappclcijaa
open Go.RowKit
set_option linter.unusedVariables false
set_option linter.unusedSimpArgs false

set_option maxHeartbeats 400000 in
theorem l11Message_t (n : Int) (w : World) :
    Calls Try.prog 50 #[.int .i64 n] w fun e w' => e = .returned (.bool (inB n 0 11)) ∧ w = w' := by
  go_enter Try.func50, Try.ntmps50
  go_wp2_with (go_at_call 53; (with_reducible refine (l6In_any _ _ _ _).mono ?_); rintro e w' ⟨rfl, rfl⟩)
  go_ret
  exact ⟨rfl, rfl⟩

theorem l11Message_tas {n : Int} {r : Bool} (h : inB n 0 11 = r) (w : World) : Calls Try.prog 50 #[.int .i64 n] w fun e w' => e = .returned (.bool r) ∧ w = w' := by
  subst h; exact l11Message_t n w

theorem l1Has_as {B n c : Nat} {A : Option Addr} {zs : List Int} {x : Int} {r : Bool} (h : hasB zs x = r) (w : World) (hr : RdI w B A n zs) (hn : n < 1099511627776) :
    Calls Try.prog 47 #[.slice A n c, .int .i64 x] w fun e w' => e = .returned (.bool r) ∧ w = w' := by
  subst h; exact l1Has_any x w hr hn

theorem inT_true {n : Int} : inB n 0 11 = true ↔ (0 ≤ n ∧ n ≤ 11) := by simp [inB]

theorem hasB_mem {zs : List Int} {x : Int} : hasB zs x = true ↔ x ∈ zs := by simp [hasB]

theorem hasB_no {zs : List Int} {x : Int} : hasB zs x = false ↔ x ∉ zs := by
  rw [← hasB_mem]; cases hasB zs x <;> simp

theorem take_snocI {zs : List Int} {k : Nat} {z : Int} (h : zs[k]? = some z) : zs.take (k + 1) = zs.take k ++ [z] := by
  obtain ⟨hk, e⟩ := List.getElem?_eq_some_iff.1 h
  rw [List.take_succ_eq_append_getElem hk, e]

theorem trB_bad {zs : List Int} {k : Nat} {z : Int} (hz : zs[k]? = some z) (h : inB z 0 11 = false ∨ hasB (zs.take k) z = true) : trB zs = false := by
  cases ht : trB zs with
  | false => rfl
  | true =>
    exfalso
    have h1 := trB_sub (List.take_sublist (k + 1) zs) ht
    rw [take_snocI hz, trB_snoc] at h1
    rcases h with h | h
    · rw [inT_true.2 h1.2.1] at h; cases h
    · exact h1.2.2 (hasB_mem.1 h)

set_option maxHeartbeats 1000000 in
theorem l21List_any {B n c : Nat} {A : Option Addr} {zs : List Int} (w : World) (hr : RdI w B A n zs) (hn : n < 1099511627776) (hnc : n ≤ c) (hc : c ≤ 9223372036854775807) :
    Calls Try.prog 39 #[.slice A n c] w fun e w' => e = .returned (.bool (trB zs)) ∧ Qt w w' := by
  have hl' := hid hr.len
  have hr' := hid hr
  clear hr
  go_enter Try.func39, Try.ntmps39
  go_wp2
  go_loopw [3] (fun i wr => ∃ k : Nat, k ≤ n ∧ i = .int .i64 k ∧ Qt w wr ∧ Hid (trB (zs.take k) = true)) (fun i _ => n - (intOf i).toNat)
  case atStart => exact ⟨0, Nat.zero_le _, rfl, Qt.refl _, hid rfl⟩
  case round =>
    obtain ⟨k, hk, rfl, hq, hall⟩ := hrel
    by_cases hlt : k < n
    · obtain ⟨ad, z, rfl, hz, hcz⟩ := RdI.at' (hq.reads hr'.out) hlt
      have i0 : (0 : Int) ≤ (k : Int) := by omega
      have i1 : (k : Int) < (n : Int) := by omega
      have i2 : k ≤ c := by omega
      have hzg := hid (getD_of (by rw [hl'.out]; exact hlt) hz.out)
      have hrk := hid (hq.reads (RdI.cutT hr'.out (by omega : k ≤ n)))
      have hkn : k < 1099511627776 := by omega
      cases hg : inB z 0 11 with
      | false =>
        have hno := hid (trB_bad hzg.out (.inl hg))
        have hg' := hid hg
        clear hg
        go_wp2
        go_quiet ((go_at_call 50; exact same_call (l11Message_tas hg'.out _)))
        go_wp2
        go_ret
        exact ⟨ret_bool hno.out.symm, hq.drewN _⟩
      | true =>
        have hg' := hid hg
        cases hh : hasB (zs.take k) z with
        | true =>
          have hno := hid (trB_bad hzg.out (.inr hh))
          have hh' := hid hh
          clear hg hh
          go_wp2
          go_quiet (first | (go_at_call 50; exact same_call (l11Message_tas hg'.out _)) | (go_at_call 47; exact same_call (l1Has_as hh'.out _ (Reads.drewN hrk.out _) hkn)))
          go_wp2
          go_ret
          exact ⟨ret_bool hno.out.symm, hq.drewN _⟩
        | false =>
          have hnx := hid (show trB (zs.take (k + 1)) = true by
            rw [take_snocI hzg.out, trB_snoc]
            exact ⟨hall.out, inT_true.1 hg, hasB_no.1 hh⟩)
          have hh' := hid hh
          clear hg hh
          go_wp2
          go_quiet (first | (go_at_call 50; exact same_call (l11Message_tas hg'.out _)) | (go_at_call 47; exact same_call (l1Has_as hh'.out _ (Reads.drewN hrk.out _) hkn)))
          go_wp2
          go_roundw
          case rel => exact ⟨k + 1, by omega, by go_num, hq.drewN _, hnx⟩
          case measure => simp [intOf]; omega
    · have hfin := hid (show trB zs = true by
        have := hall.out
        rwa [List.take_of_length_le (by rw [hl'.out]; omega)] at this)
      go_wp2
      go_ret
      exact ⟨ret_bool hfin.out.symm, hq⟩

theorem all_take_snoc {zss : List (List Int)} {k : Nat} {zs : List Int} (hz : zss[k]? = some zs) (h : (zss.take k).all trB = true) (ht : trB zs = true) : (zss.take (k + 1)).all trB = true := by
  obtain ⟨hk, e⟩ := List.getElem?_eq_some_iff.1 hz
  rw [List.take_succ_eq_append_getElem hk, e, List.all_append, h]
  simp [ht]

theorem trsB_bad {zss : List (List Int)} {k : Nat} {zs : List Int} (hz : zss[k]? = some zs) (ht : trB zs = false) : trsB zss = false := by
  cases h : trsB zss with
  | false => rfl
  | true =>
    have := (trsB_true.1 h).1 zs (List.mem_of_getElem? hz)
    rw [ht] at this; cases this

theorem l21List_as {B n c : Nat} {A : Option Addr} {zs : List Int} {r : Bool} (h : trB zs = r) (w : World) (hr : RdI w B A n zs) (hn : n < 1099511627776) (hnc : n ≤ c) (hc : c ≤ 9223372036854775807) :
    Calls Try.prog 39 #[.slice A n c] w fun e w' => e = .returned (.bool r) ∧ Qt w w' := by
  subst h; exact l21List_any w hr hn hnc hc
/-- every trace is short -/
def ShT (zss : List (List Int)) : Prop := ∀ zs ∈ zss, zs.length < 1099511627776

set_option maxHeartbeats 1000000 in
theorem TracesValid_spec {B n c : Nat} {A : Option Addr} {zss : List (List Int)} (w : World) (hr : RdT w B A n zss) (hn : n < 1099511627776) (hs : ShT zss) :
    Calls Try.prog 21 #[.slice A n c] w fun e w' => e = .returned (.bool (trsB zss)) ∧ Qt w w' := by
  have hl' := hid hr.1
  have hr' := hid hr
  have hs' := hid hs
  clear hr hs
  go_enter Try.func21, Try.ntmps21
  go_wp2
  go_loopw [3] (fun i wr => ∃ k : Nat, k ≤ n ∧ i = .int .i64 k ∧ Qt w wr ∧ Hid ((zss.take k).all trB = true)) (fun i _ => n - (intOf i).toNat)
  case atStart => exact ⟨0, Nat.zero_le _, rfl, Qt.refl _, hid rfl⟩
  case round =>
    obtain ⟨k, hk, rfl, hq, hall⟩ := hrel
    by_cases hlt : k < n
    · obtain ⟨ad, Ai, m, ci, zs, rfl, hz, hm, hb, hc, hri, hmc, hci⟩ := (hr'.out.quiet hq).at_ hlt
      have i0 : (0 : Int) ≤ (k : Int) := by omega
      have i1 : (k : Int) < (n : Int) := by omega
      have hml : m < 1099511627776 := by rw [← hm.out]; exact hs'.out _ (List.mem_of_getElem? hz.out)
      cases ht : trB zs with
      | false =>
        have hno := hid (trsB_bad hz.out ht)
        have ht' := hid ht
        clear ht
        go_wp2_with fail
        refine (l21List_as ht'.out _ hri.out hml hmc hci).mono ?_
        rintro e w1 ⟨rfl, hq1⟩
        have hq2 := hq.trans hq1
        clear hq1
        go_wp2
        go_ret
        exact ⟨ret_bool hno.out.symm, hq2⟩
      | true =>
        have hnx := hid (all_take_snoc hz.out hall.out ht)
        have ht' := hid ht
        clear ht
        go_wp2_with fail
        refine (l21List_as ht'.out _ hri.out hml hmc hci).mono ?_
        rintro e w1 ⟨rfl, hq1⟩
        have hq2 := hq.trans hq1
        clear hq1
        go_wp2
        go_roundw
        case rel => exact ⟨k + 1, by omega, by go_num, hq2, hnx⟩
        case measure => simp [intOf]; omega
    · have hfin := hid (show trsB zss = decide ((n : Int) ≤ 6) by
        have := hall.out
        rw [List.take_of_length_le (by rw [hl'.out]; omega)] at this
        rw [trsB, this, Bool.true_and, hl'.out]
        exact decide_eq_decide.2 (by omega))
      go_wp2
      go_ret
      exact ⟨ret_bool hfin.out.symm, hq⟩

theorem cs_none {zs : List Int} {a b : Int} (h : ∀ j : Nat, zs[j]? = some a → zs[j + 1]? = some b → False) : csB zs a b = false := by
  cases hc : csB zs a b with
  | false => rfl
  | true =>
    obtain ⟨k, h1, h2⟩ := csB_true.1 hc
    exact (h k h1 h2).elim

theorem nx_none {zss : List (List Int)} {a b : Int} (h : ∀ (j : Nat) (zs : List Int), zss[j]? = some zs → csB zs a b = false) : nxT zss a b = false := by
  cases hc : nxT zss a b with
  | false => rfl
  | true =>
    obtain ⟨t, ht, k⟩ := List.any_eq_true.1 hc
    obtain ⟨j, hj, e⟩ := List.getElem_of_mem ht
    have := h j t (List.getElem?_eq_some_iff.2 ⟨hj, e⟩)
    rw [this] at k; cases k

set_option maxHeartbeats 2000000 in
theorem l21Next_any {B n c : Nat} {A : Option Addr} {zss : List (List Int)} (a b : Int) (w : World) (hr : RdT w B A n zss) (hn : n < 1099511627776) (hs : ShT zss) :
    Calls Try.prog 48 #[.slice A n c, .int .i64 a, .int .i64 b] w fun e w' => e = .returned (.bool (nxT zss a b)) ∧ w = w' := by
  have hl' := hid hr.1
  have hr' := hid hr
  have hs' := hid hs
  clear hr hs
  go_enter Try.func48, Try.ntmps48
  go_wp2
  go_loop [7] (fun i => ∃ k : Nat, k ≤ n ∧ i = .int .i64 k ∧ Hid (∀ (j : Nat) (zs : List Int), j < k → zss[j]? = some zs → csB zs a b = false)) (fun i => n - (intOf i).toNat)
  case atStart => exact ⟨0, Nat.zero_le _, rfl, hid (fun j zs h => by omega)⟩
  case round =>
    obtain ⟨k, hk, rfl, hall⟩ := hrel
    by_cases hlt : k < n
    · obtain ⟨ad, Ai, m, ci, zs, rfl, hz, hm, hb, hc, hri, hmc, hci⟩ := hr'.out.at_ hlt
      have i0 : (0 : Int) ≤ (k : Int) := by omega
      have i1 : (k : Int) < (n : Int) := by omega
      have hml : m < 1099511627776 := by rw [← hm.out]; exact hs'.out _ (List.mem_of_getElem? hz.out)
      go_wp2
      go_loop [8] (fun i => ∃ q : Nat, 1 ≤ q ∧ i = .int .i64 q ∧ Hid (∀ j : Nat, j + 1 < q → zs[j]? = some a → zs[j + 1]? = some b → False)) (fun i => m - (intOf i).toNat)
      case atStart => exact ⟨1, by omega, rfl, hid (fun j h => by omega)⟩
      case round =>
        obtain ⟨q, hq, rfl, hin⟩ := hrel
        by_cases hlq : q < m
        · obtain ⟨ad2, x, e2, hx, hcx⟩ := RdI.at' hri.out (k := q - 1) (by omega)
          obtain ⟨ad3, y, e3, hy, hcy⟩ := RdI.at' hri.out hlq
          subst e2
          injection e3 with e3
          subst e3
          have hqw : IntKind.i64.wrap ((q : Int) - 1) = (q : Int) - 1 := IntWalk.i64_in _ (by omega)
          have j0 : (0 : Int) ≤ (q : Int) - 1 := by omega
          have j1 : (q : Int) - 1 < (m : Int) := by omega
          have j2 : ((q : Int) - 1).toNat = q - 1 := by omega
          have j3 : (0 : Int) ≤ (q : Int) := by omega
          have j4 : (q : Int) < (m : Int) := by omega
          have hxg := hid (getD_of (by rw [hm.out]; omega) hx.out)
          have hyg := hid (getD_of (by rw [hm.out]; exact hlq) hy.out)
          have hnx : Hid ((x = a → y = b → False) → ∀ j : Nat, j + 1 < q + 1 → zs[j]? = some a → zs[j + 1]? = some b → False) := hid (fun h j hj h1 h2 => by
            by_cases e : j = q - 1
            · subst e
              rw [hxg.out] at h1
              rw [show q - 1 + 1 = q by omega, hyg.out] at h2
              injection h1 with h1
              injection h2 with h2
              exact h h1 h2
            · exact hin.out j (by omega) h1 h2)
          by_cases hxa : x = a
          · subst hxa
            by_cases hyb : y = b
            · subst hyb
              have hyes := hid (show nxT zss x y = true from nxT_true.2 ⟨zs, List.mem_of_getElem? hz.out, q - 1, hxg.out, by rw [show q - 1 + 1 = q by omega]; exact hyg.out⟩)
              clear hnx
              go_wp2
              go_ret
              exact ⟨ret_bool hyes.out.symm, rfl⟩
            · have hyn : (y == b) = false := by simp [hyb]
              have hn2 := hid (hnx.out (fun _ h => hyb h))
              clear hnx hyb
              go_wp2
              go_round
              case rel => exact ⟨q + 1, by omega, by go_num, hn2⟩
              case measure => simp [intOf]; omega
          · have hxn : (x == a) = false := by simp [hxa]
            have hn2 := hid (hnx.out (fun h => absurd h hxa))
            clear hnx hxa
            go_wp2
            go_round
            case rel => exact ⟨q + 1, by omega, by go_num, hn2⟩
            case measure => simp [intOf]; omega
        · have hcs := hid (cs_none (zs := zs) (a := a) (b := b) (fun j h1 h2 => hin.out j (by
            have := (List.getElem?_eq_some_iff.1 h2).1
            rw [hm.out] at this; omega) h1 h2))
          have hlq2 : ¬ ((q : Int) < (m : Int)) := by omega
          go_wp2
          go_round
          case rel => exact ⟨k + 1, by omega, by go_num, hid (fun j zs' hj hzs' => by
              by_cases e : j = k
              · subst e
                rw [hz.out] at hzs'
                injection hzs' with hzs'
                rw [← hzs']; exact hcs.out
              · exact hall.out j zs' (by omega) hzs')⟩
          case measure => simp [intOf]; omega
    · have hno := hid (nx_none (zss := zss) (a := a) (b := b) (fun j zs hj => hall.out j zs (by
        have := (List.getElem?_eq_some_iff.1 hj).1
        rw [hl'.out] at this; omega) hj))
      go_wp2
      go_ret
      exact ⟨ret_bool hno.out.symm, rfl⟩

theorem l21Next_as {B n c : Nat} {A : Option Addr} {zss : List (List Int)} {a b : Int} {r : Bool} (h : nxT zss a b = r) (w : World) (hr : RdT w B A n zss) (hn : n < 1099511627776) (hs : ShT zss) :
    Calls Try.prog 48 #[.slice A n c, .int .i64 a, .int .i64 b] w fun e w' => e = .returned (.bool r) ∧ w = w' := by
  subst h; exact l21Next_any a b w hr hn hs
end Go.Proofs.Ytdhafappclcijaa
