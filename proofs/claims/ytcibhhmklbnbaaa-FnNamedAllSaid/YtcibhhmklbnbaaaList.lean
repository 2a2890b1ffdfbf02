/-
  Slices of slices of ints: what they read as; contracts of spec.l1Sets, spec.GroupsNamed, impl.groupSetList, impl.GroupsNamed. No condition but lengths below 2^40.
-/
import Derived.Test.YtcibhhmklbnbaaaImplA
import Derived.Test.YtcibhhmklbnbaaaPureC
import Derived.Test.YtcibhhmklbnbaaaOwn
namespace Go.Proofs.Ytcibhhmklbnbaaa
open Go.RowKit

/-- '.slice A n c' reads as the lists zss; everything lies below B. -/
def RdL (w : World) (B : Nat) (A : Option Addr) (n : Nat) (zss : List (List Int)) : Prop :=
  zss.length = n ∧ ∀ i, i < n → ∃ (ad : Addr) (Ai : Option Addr) (ci : Nat), A = some ad ∧ ad.block < B ∧ w.cell? (ad.add i) = some (.slice Ai (zss.getD i []).length ci) ∧
    RdI w B Ai (zss.getD i []).length (zss.getD i [])
section
variable {w w' : World} {B B' n : Nat} {A : Option Addr} {zss : List (List Int)}

theorem RdL.keep (h : RdL w B A n zss) (hk : ∀ p : Addr, p.block < B → w'.cell? p = w.cell? p) : RdL w' B A n zss :=
  ⟨h.1, fun i hi => by
    obtain ⟨ad, Ai, ci, e, hb, hc, hr⟩ := h.2 i hi
    exact ⟨ad, Ai, ci, e, hb, (hk _ (by rw [block_of_add]; exact hb)).trans hc, Reads.keep hr hk⟩⟩

theorem RdL.more (h : RdL w B A n zss) (hB : B ≤ B') : RdL w B' A n zss :=
  ⟨h.1, fun i hi => by
    obtain ⟨ad, Ai, ci, e, hb, hc, hr⟩ := h.2 i hi
    exact ⟨ad, Ai, ci, e, by omega, hc, Reads.more hr hB⟩⟩

theorem RdL.below (h : RdL w B A n zss) (hb : Below B w w') : RdL w' B A n zss := h.keep fun _ hp => hb.cell hp

theorem RdL.quiet (h : RdL w B A n zss) (hq : Qt w w') : RdL w' B A n zss := by
  obtain ⟨q, rfl⟩ := hq
  exact h

theorem RdL.alloc (h : RdL w B A n zss) (hB : B ≤ w.heap.size) (o : Obj) : RdL (w.alloc o) B A n zss := h.keep fun p hp => World.cell?_alloc_lt w o p (by omega)

theorem RdL.at' {k : Nat} (h : RdL w B A n zss) (hk : k < n) : ∃ (ad : Addr) (Ai : Option Addr) (m ci : Nat) (zs : List Int), A = some ad ∧ Hid (zss.getD k [] = zs) ∧ Hid (zs.length = m) ∧ w.cell? (ad.add k) = some (.slice Ai m ci) ∧ RdI w B Ai m zs := by
  obtain ⟨ad, Ai, ci, e, _, hc, hr⟩ := h.2 k hk
  exact ⟨ad, Ai, _, ci, _, e, rfl, rfl, hc, hr⟩
end

/-- every inner list is short -/
def Short (zss : List (List Int)) : Prop := ∀ i, i < zss.length → (zss.getD i []).length < 1099511627776

set_option maxHeartbeats 1000000 in
theorem l1Sets_any {B n c : Nat} {A : Option Addr} {zss : List (List Int)} (w : World) (hr : RdL w B A n zss) (hn : n < 1099511627776) (hsh : Short zss) :
    Calls Try.prog 34 #[.slice A n c] w fun e w' => e = .returned (.bool (setsB zss)) ∧ Qt w w' := by
  have hl' := hid hr.1
  have hr' := hid hr
  have hsh' := hid hsh
  clear hr hsh
  go_enter Try.func34, Try.ntmps34
  go_wp2
  go_loopw [3] (fun i wr => ∃ k : Nat, k ≤ n ∧ i = .int .i64 k ∧ Qt w wr ∧ Hid (∀ j, j < k → gvalid (zss.getD j []) = true)) (fun i _ => n - (intOf i).toNat)
  case atStart => exact ⟨0, Nat.zero_le _, rfl, Qt.refl _, hid (fun j h => by omega)⟩
  case round =>
    obtain ⟨k, hk, rfl, hq, hall⟩ := hrel
    by_cases hlt : k < n
    · obtain ⟨ad, Ai, m, ci, zs, rfl, hz, hm, hc, hri⟩ := RdL.at' (hr'.out.quiet hq) hlt
      have hml : m < 1099511627776 := by
        have := hsh'.out k (by rw [hl'.out]; exact hlt)
        rw [hz.out, hm.out] at this; exact this
      have hri' := hid hri
      clear hri
      cases hg : gvalid zs with
      | true =>
        go_wp2_with (go_at_call 24; (with_reducible refine (GroupsValid_spec _ hri'.out hml).mono ?_); rw [hg]; rintro e w' ⟨rfl, hq'⟩)
        go_roundw
        case rel => exact ⟨k + 1, by omega, by go_num, hq.trans hq', hid (fun j hj => by
            by_cases e : j = k
            · subst e; rw [hz.out]; exact hg
            · exact hall.out j (by omega))⟩
        case measure => simp [intOf]; omega
      | false =>
        have hbad := hid (setsB_bad (zss := zss) (k := k) (by rw [hl'.out]; exact hlt) (by rw [hz.out]; exact hg))
        go_wp2_with (go_at_call 24; (with_reducible refine (GroupsValid_spec _ hri'.out hml).mono ?_); rw [hg]; rintro e w' ⟨rfl, hq'⟩)
        go_ret
        exact ⟨ret_bool hbad.out.symm, hq.trans hq'⟩
    · have hfin := hid (setsB_all (zss := zss) (fun i hi => hall.out i (by rw [hl'.out] at hi; omega)))
      go_wp2
      go_ret
      exact ⟨ret_bool (by rw [hfin.out, hl'.out]; exact decide_eq_decide.2 (by omega)), hq⟩

def NewI (w : World) (zs : List Int) (e : Ending) (w' : World) : Prop := ∃ v, e = .returned v ∧ OwI w' w.heap.size v zs ∧ Below w.heap.size w w'

set_option maxHeartbeats 1000000 in
theorem GroupsNamed_spec {n c : Nat} {A : Option Addr} {zss : List (List Int)} (x : Int) (w : World) (hr : RdL w w.heap.size A n zss) (hn : n < 1099511627776) (hsh : Short zss) :
    Calls Try.prog 16 #[.slice A n c, .int .i64 x] w (NewI w (namedR zss x)) := by
  have hl' := hid hr.1
  have hsh' := hid hsh
  have he := hid (OwI.empty_lit w (Nat.le_refl w.heap.size))
  have hb0 := hid ((Below.refl w.heap.size w).alloc (Nat.le_refl _) (.cells #[] 3))
  have hr1 := hid (hr.alloc (Nat.le_refl _) (.cells #[] 3))
  have hr' := hid hr
  clear hr hsh
  cases h1 : setsB zss with
  | false =>
    go_enter Try.func16, Try.ntmps16
    go_wp2_with (go_at_call 34; (with_reducible refine (l1Sets_any _ hr1.out hn hsh'.out).mono ?_); rw [h1]; rintro e w1 ⟨rfl, hq1⟩)
    go_ret
    exact ⟨_, rfl, by rw [namedR_no1 h1]; exact hq1.own he.out, hb0.out.trans (hq1.below _)⟩
  | true =>
    cases h2 : grB x with
    | false =>
      go_enter Try.func16, Try.ntmps16
      go_wp2_with (first
        | (go_at_call 34; (with_reducible refine (l1Sets_any _ hr1.out hn hsh'.out).mono ?_); rw [h1]; rintro e w1 ⟨rfl, hq1⟩)
        | (go_at_call 35; (with_reducible refine (l1Group_any _ _).mono ?_); rw [h2]; rintro e w2 ⟨rfl, rfl⟩))
      go_ret
      exact ⟨_, rfl, by rw [namedR_no2 h2]; exact hq1.own he.out, hb0.out.trans (hq1.below _)⟩
    | true =>
      go_enter Try.func16, Try.ntmps16
      go_wp2_with (first
        | (go_at_call 34; (with_reducible refine (l1Sets_any _ hr1.out hn hsh'.out).mono ?_); rw [h1]; rintro e w1 ⟨rfl, hq1⟩)
        | (go_at_call 35; (with_reducible refine (l1Group_any _ _).mono ?_); rw [h2]; rintro e w2 ⟨rfl, rfl⟩))
      have hb1 := hid (hb0.out.trans (hq1.below _))
      have ho1 := hid (hq1.own he.out)
      clear hq1
      go_loopw [5, 6] (fun o i wr => ∃ k : Nat, k ≤ n ∧ i = .int .i64 k ∧ OwI wr w.heap.size o (namedTo zss x k) ∧ Below w.heap.size w wr) (fun _ i _ => n - (intOf i).toNat)
      case atStart => exact ⟨0, by omega, rfl, ho1.out, hb1.out⟩
      case round =>
        obtain ⟨k, hk, rfl, hown, hbel⟩ := hrel
        have hsz := hbel.size
        have hll := namedTo_len zss x k
        by_cases hlt : k < n
        · obtain ⟨ad, Ai, m, ci, zs, rfl, hz, hm, hc, hri⟩ := RdL.at' (hr'.out.below hbel) hlt
          have hml : m < 1099511627776 := by
            have := hsh'.out k (by rw [hl'.out]; exact hlt)
            rw [hz.out, hm.out] at this; exact this
          have hri' := hid hri
          clear hri
          cases hg : hasB zs x with
          | true =>
            have hnew := hid (namedTo_hit (zss := zss) (x := x) (k := k) (by rw [hz.out]; exact hg))
            go_wp2_with (first
              | (go_at_call 36; (with_reducible refine (l1Has_any _ _ hri'.out hml).mono ?_); rw [hg]; rintro e w' ⟨rfl, rfl⟩)
              | (at_builtin; refine wpList_app1 rfl (.tmp 29) (.tmp 31) rfl w.heap.size k _ _ rfl rfl hown hsz (by omega) ?_; intro v' w1 hown' hbel'))
            go_roundw
            case rel => exact ⟨k + 1, by omega, by go_num, by rw [hnew.out]; exact hown', hbel.trans hbel'⟩
            case measure => simp [intOf]; omega
          | false =>
            have hnew := hid (namedTo_miss (zss := zss) (x := x) (k := k) (by rw [hz.out]; exact hg))
            go_wp2_with (go_at_call 36; (with_reducible refine (l1Has_any _ _ hri'.out hml).mono ?_); rw [hg]; rintro e w' ⟨rfl, rfl⟩)
            go_roundw
            case rel => exact ⟨k + 1, by omega, by go_num, by rw [hnew.out]; exact hown, hbel⟩
            case measure => simp [intOf]; omega
        · have hfin := hid (show namedTo zss x k = namedR zss x by rw [namedR_yes h1 h2, hl'.out, show k = n by omega])
          go_wp2
          go_ret
          exact ⟨_, rfl, by rw [← hfin.out]; exact hown, hbel⟩

end Go.Proofs.Ytcibhhmklbnbaaa
