/-
  Contracts of the model's functions of sets that make lists: l1Union, spec.GroupsCommon, spec.GroupsUnion. No condition but lengths below 2^40.
-/
import Derived.Test.YtcibhhmklbnbaaaSpecB
namespace Go.Proofs.Ytcibhhmklbnbaaa
open Go.RowKit

set_option maxHeartbeats 400000 in
theorem l1Union_any {n m c d : Nat} {A A' : Option Addr} {xs ys : List Int} (w : World) (hx : RdI w w.heap.size A n xs) (hy : RdI w w.heap.size A' m ys) (hn : n < 1099511627776) (hm : m < 1099511627776) :
    Calls Try.prog 25 #[.slice A n c, .slice A' m d] w fun e w' => ∃ v, e = .returned v ∧ OwI w' w.heap.size v (unionL xs ys) ∧ Below w.heap.size w w' := by
  have hx' := hid hx
  have hy' := hid hy
  clear hx hy
  go_enter Try.func25, Try.ntmps25
  go_wp2
  go_loopw [5, 6] (fun o i wr => ∃ k : Nat, k ≤ 5 ∧ i = .int .i64 k ∧ OwI wr w.heap.size o ((grps k).filter fun g => hasB xs g || hasB ys g) ∧ Below w.heap.size w wr) (fun _ i _ => 5 - (intOf i).toNat)
  case atStart => exact ⟨0, by omega, rfl, OwI.empty_lit w (Nat.le_refl _), (Below.refl _ _).alloc (Nat.le_refl _) _⟩
  case round =>
    obtain ⟨k, hk, rfl, hown, hbel⟩ := hrel
    have hxr := hid (hx'.out.below hbel)
    have hyr := hid (hy'.out.below hbel)
    have hsz := hbel.size
    have hll := grps_len (fun g => hasB xs g || hasB ys g) k
    by_cases hlt : k < 5
    · by_cases h1 : hasB xs k = true
      · have hnew := hid (grps_hit (p := fun g => hasB xs g || hasB ys g) (k := k) (by simp [h1]))
        go_wp2_with (first
          | (go_at_call 36; (with_reducible refine (l1Has_any _ _ hxr.out hn).mono ?_); rintro e w' ⟨rfl, rfl⟩)
          | (at_builtin; refine wpList_app1 rfl (.tmp 20) (.tmp 22) rfl w.heap.size k _ _ rfl rfl hown hsz (by omega) ?_; intro v' w1 hown' hbel'))
        go_roundw
        case rel => exact ⟨k + 1, by omega, by go_num, by rw [hnew.out]; exact hown', hbel.trans hbel'⟩
        case measure => simp [intOf]; omega
      · have h1' : hasB xs k = false := by simpa using h1
        clear h1
        by_cases h2 : hasB ys k = true
        · have hnew := hid (grps_hit (p := fun g => hasB xs g || hasB ys g) (k := k) (by simp [h2]))
          go_wp2_with (first
            | (go_at_call 36; (with_reducible refine (l1Has_any _ _ hxr.out hn).mono ?_); rintro e w' ⟨rfl, rfl⟩)
            | (go_at_call 36; (with_reducible refine (l1Has_any _ _ hyr.out hm).mono ?_); rintro e w' ⟨rfl, rfl⟩)
            | (at_builtin; refine wpList_app1 rfl (.tmp 20) (.tmp 22) rfl w.heap.size k _ _ rfl rfl hown hsz (by omega) ?_; intro v' w1 hown' hbel'))
          go_roundw
          case rel => exact ⟨k + 1, by omega, by go_num, by rw [hnew.out]; exact hown', hbel.trans hbel'⟩
          case measure => simp [intOf]; omega
        · have h2' : hasB ys k = false := by simpa using h2
          clear h2
          have hnew := hid (grps_miss (p := fun g => hasB xs g || hasB ys g) (k := k) (by simp [h1', h2']))
          go_wp2_with (first
            | (go_at_call 36; (with_reducible refine (l1Has_any _ _ hxr.out hn).mono ?_); rintro e w' ⟨rfl, rfl⟩)
            | (go_at_call 36; (with_reducible refine (l1Has_any _ _ hyr.out hm).mono ?_); rintro e w' ⟨rfl, rfl⟩))
          go_roundw
          case rel => exact ⟨k + 1, by omega, by go_num, by rw [hnew.out]; exact hown, hbel⟩
          case measure => simp [intOf]; omega
    · obtain rfl : k = 5 := by omega
      go_wp2
      go_ret
      exact ⟨_, rfl, hown, hbel⟩

set_option maxHeartbeats 400000 in
theorem GroupsUnion_spec {n m c d : Nat} {A A' : Option Addr} {xs ys : List Int} (w : World) (hx : RdI w w.heap.size A n xs) (hy : RdI w w.heap.size A' m ys) (hn : n < 1099511627776) (hm : m < 1099511627776) :
    Calls Try.prog 9 #[.slice A n c, .slice A' m d] w fun e w' => ∃ v, e = .returned v ∧ OwI w' w.heap.size v (unionR xs ys) ∧ Below w.heap.size w w' := by
  have hx' := hid hx
  have hy' := hid hy
  clear hx hy
  by_cases h1 : gvalid xs = true
  · by_cases h2 : gvalid ys = true
    · go_enter Try.func9, Try.ntmps9
      go_wp2_with (first
        | (go_at_call 24; (with_reducible refine (GroupsValid_spec _ hx'.out hn).mono ?_); rintro e w1 ⟨rfl, hq1⟩; have hy2 := hid (hq1.reads hy'.out); have hxx := hid (hq1.reads hx'.out); have hs1 := hq1.size)
        | (go_at_call 24; (with_reducible refine (GroupsValid_spec _ hy2.out hm).mono ?_); rintro e w2 ⟨rfl, hq2⟩; have hy3 := hid (hq2.reads hy2.out); have hx3 := hid (hq2.reads hxx.out); have hs2 := hq2.size)
        | (go_at_call 25; refine (l1Union_any _ (hx3.out.more (by omega)) (hy3.out.more (by omega)) hn hm).mono ?_; rintro e w3 ⟨v, rfl, hown, hbel⟩))
      go_ret
      refine ⟨_, rfl, ?_, ((hq1.below _).trans (hq2.below _)).trans (hbel.mono (by omega))⟩
      rw [unionR_yes h1 h2]
      exact hown.more (by omega)
    · have h2' : gvalid ys = false := by simpa using h2
      clear h2
      go_enter Try.func9, Try.ntmps9
      go_wp2_with (first
        | (go_at_call 24; (with_reducible refine (GroupsValid_spec _ hx'.out hn).mono ?_); rintro e w1 ⟨rfl, hq1⟩; have hy2 := hid (hq1.reads hy'.out); have hxx := hid (hq1.reads hx'.out))
        | (go_at_call 24; (with_reducible refine (GroupsValid_spec _ hy2.out hm).mono ?_); rintro e w2 ⟨rfl, hq2⟩))
      go_ret
      have hs : w.heap.size ≤ w2.heap.size := by rw [hq2.size, hq1.size]; exact Nat.le_refl _
      exact ⟨_, rfl, by rw [unionR_no2 h2']; exact OwI.empty_lit w2 hs, ((hq1.below _).trans (hq2.below _)).alloc hs _⟩
  · have h1' : gvalid xs = false := by simpa using h1
    clear h1
    go_enter Try.func9, Try.ntmps9
    go_wp2_with (go_at_call 24; (with_reducible refine (GroupsValid_spec _ hx'.out hn).mono ?_); rintro e w1 ⟨rfl, hq1⟩)
    go_ret
    have hs : w.heap.size ≤ w1.heap.size := by rw [hq1.size]; exact Nat.le_refl _
    exact ⟨_, rfl, by rw [unionR_no1 h1']; exact OwI.empty_lit w1 hs, (hq1.below _).alloc hs _⟩

end Go.Proofs.Ytcibhhmklbnbaaa
