/-
  Contracts of the program's small functions over views: membersValid, ViewValid, viewOf, membersWith, membersWithout. No condition but lengths below 2^40.
-/
import Derived.Test.YtppdfgifnmfioaaDoorVwB
import Derived.Test.YtppdfgifnmfioaaDoorVwI
import Derived.Deep.RegionWith
import Derived.Deep.RegionHeld3
namespace Go.Proofs.YtppdfgifnmfioaaDoor
open Go.RowKit
set_option linter.unusedVariables false
set_option linter.unusedSimpArgs false

/-- a view by value -/
abbrev vwV (n : Int) (v : Value) : Value := .agg #[.int .i64 n, v]

set_option maxHeartbeats 2000000 in
theorem membersValid_any {B n c : Nat} {A : Option Addr} {zs : List Int} (w : World) (hr : RdI w B A n zs) (hn : n < 1099511627776) :
    Calls Tryd.prog 42 #[.slice A n c] w fun e w' => e = .returned (.bool (mvB zs && decide (0 < n))) ∧ w = w' := by
  have hl := hid hr.len
  have hr' := hid hr
  clear hr
  go_enter Tryd.func42, Tryd.ntmps42
  go_wp2
  go_loop [3, 8] (fun l i => ∃ (k : Nat) (x : Int), k ≤ n ∧ i = .int .i64 k ∧ l = .int .i64 x ∧ Hid (lastM zs k = x) ∧ Hid (∀ j, j < k → mvAt zs j = true)) (fun _ i => n - (intOf i).toNat)
  case atStart => exact ⟨0, -1, by omega, rfl, rfl, rfl, hid (fun j h => by omega)⟩
  case round =>
    obtain ⟨k, x, hk, rfl, rfl, hx, hall⟩ := hrel
    by_cases hlt : k < n
    · obtain ⟨ad, z, rfl, hz, hc⟩ := hr'.out.at' hlt
      have hv := hid (mvAt_last hz.out hx.out hall.out)
      by_cases h1 : z ≤ x
      · have hbad : Hid (mvB zs = false) := hid (mvB_of_bad (i := k) (by rw [hl.out]; exact hlt) (by rw [hv.out, decide_eq_false (show ¬ x < z by omega)]; rfl))
        go_wp2
        go_ret
        exact ⟨ret_bool (by rw [hbad.out]; rfl), rfl⟩
      · by_cases h2 : z < 8
        · have hok : Hid (mvAt zs k = true) := hid (by rw [hv.out, decide_eq_true (show x < z by omega), decide_eq_true h2]; rfl)
          have h3 : ¬ (z ≥ 8) := by omega
          go_wp2
          go_round
          case rel => exact ⟨k + 1, z, by omega, by go_num, rfl, lastM_succ hz.out, hid (fun j hj => by
              by_cases e : j = k
              · subst e; exact hok.out
              · exact hall.out j (by omega))⟩
          case measure => simp [intOf]; omega
        · have hbad : Hid (mvB zs = false) := hid (mvB_of_bad (i := k) (by rw [hl.out]; exact hlt) (by rw [hv.out, decide_eq_false h2]; simp))
          have h3 : z ≥ 8 := by omega
          go_wp2
          go_ret
          exact ⟨ret_bool (by rw [hbad.out]; rfl), rfl⟩
    · have hm := hid (mvB_of_all (zs := zs) (fun i hi => hall.out i (by rw [hl.out] at hi; omega)))
      go_wp2
      go_ret
      exact ⟨ret_bool (by rw [hm.out]; simp), rfl⟩

set_option maxHeartbeats 2000000 in
theorem ViewValid_impl {m c : Nat} {A : Option Addr} {zs : List Int} {r : Bool} (n : Int) (w : World) (hr : RdI w w.heap.size A m zs) (hm : m < 1099511627776) (hR : vwB n zs = r) :
    Calls Tryd.prog 18 #[vwV n (.slice A m c)] w fun e w' => e = .returned (.bool r) ∧ Below w.heap.size w w' := by
  have hB := hid (below1 w (.cells #[.int .i64 n, .slice A m c] 25))
  have hr' := hid (show RdI (w.alloc (.cells #[.int .i64 n, .slice A m c] 25)) w.heap.size A m zs from Reads.alloc hr (Nat.le_refl _) _)
  have hl := hid hr.len
  have hR' := hid hR
  clear hr hR
  by_cases h0 : 0 ≤ n
  · by_cases h9 : n ≤ 99
    · have hv : Hid ((mvB zs && decide (0 < m)) = r) := hid (by rw [← hR'.out, ← hl.out, vwB, inB, decide_eq_true h0, decide_eq_true h9, Bool.and_comm]; rfl)
      go_enter Tryd.func18, Tryd.ntmps18
      go_wp2_with (go_at_call 42; (with_reducible refine (membersValid_any _ hr'.out hm).mono ?_); rw [hv.out]; rintro e w2 ⟨rfl, rfl⟩)
      go_ret
      exact ⟨by simp, hB.out⟩
    · have hv : Hid (r = false) := hid (by rw [← hR'.out, vwB, inB, decide_eq_false h9]; simp)
      go_enter Tryd.func18, Tryd.ntmps18
      go_wp2
      go_ret
      exact ⟨by rw [hv.out]; rfl, hB.out⟩
  · have hv : Hid (r = false) := hid (by rw [← hR'.out, vwB, inB, decide_eq_false h0]; simp)
    go_enter Tryd.func18, Tryd.ntmps18
    go_wp2
    go_ret
    exact ⟨by rw [hv.out]; rfl, hB.out⟩

theorem RdI.takeV {w : World} {B n k : Nat} {A : Option Addr} {zs : List Int} (h : RdI w B A n zs) (hk : k ≤ n) : RdI w B A k (zs.take k) := by
  have hl := h.len
  refine ⟨by simp [ints]; omega, fun h0 => ?_⟩
  obtain ⟨ad, e, hb, hc⟩ := h.2 (by omega)
  refine ⟨ad, e, hb, fun j u hu => hc j u ?_⟩
  rw [ints, List.map_take, List.getElem?_take] at hu
  split at hu
  · exact hu
  · cases hu

theorem RdI.dropV {w : World} {B n k cap : Nat} {ad : Addr} {zs : List Int} (h : RdI w B (some ad) n zs) (hk : k ≤ n) (hc : n ≤ cap) : RdI w B (if cap = k then some ad else some (ad.add k)) (n - k) (zs.drop k) := by
  have hl := h.len
  refine ⟨by simp [ints]; omega, fun h0 => ?_⟩
  obtain ⟨ad', e, hb, hcell⟩ := h.2 (by omega)
  injection e with e
  subst e
  rw [if_neg (by omega)]
  refine ⟨_, rfl, by rw [block_of_add]; exact hb, fun j u hu => ?_⟩
  rw [add_of_add]
  exact hcell _ u (by rw [← hu, ints, ints, List.map_drop, List.getElem?_drop])

theorem OwI.capV {w : World} {B n c : Nat} {A : Option Addr} {zs : List Int} (h : OwI w B (.slice A n c) zs) : zs.length = n ∧ n ≤ c ∧ c ≤ 9223372036854775807 := by
  rcases h.2 with ⟨e, h0⟩ | ⟨g, cap, cur, e, hb, hh, h1, h2, h3, h4⟩
  · injection e with _ e2 e3
    omega
  · injection e with _ e2 e3
    simp only [maxLen] at h2
    omega

theorem one_row (w : World) (m : Int) : RdI (w.alloc (.cells #[.int .i64 m] 3)) (w.heap.size + 1) (some ⟨w.heap.size, 0, none⟩) 1 [m] := by
  refine ⟨by simp, fun _ => ⟨_, rfl, by simp, fun j u hu => ?_⟩⟩
  match j, hu with
  | 0, hu => simp at hu; subst hu; simp [Addr.add]

theorem three_rows (w : World) (m : Int) (k c : Nat) {n2 c2 : Nat} (A P : Option Addr) (xs ys : List Int) (h1 : RdI w w.heap.size A k xs) (h2 : RdI w w.heap.size P n2 ys) (hk : k < 2097152) (hn : n2 < 2097152) :
    RdR (((w.alloc (.cells #[.int .i64 m] 3)).alloc (.cells #[.slice A k c, .slice (some ⟨w.heap.size, 0, none⟩) 1 1, .slice P n2 c2] 23)).drew) (w.heap.size + 1) 3 [xs, [m], ys] := by
  have hC : Cs ((w.alloc (.cells #[.int .i64 m] 3)).alloc (.cells #[.slice A k c, .slice (some ⟨w.heap.size, 0, none⟩) 1 1, .slice P n2 c2] 23)) (w.heap.size + 1) 23 #[.slice A k c, .slice (some ⟨w.heap.size, 0, none⟩) 1 1, .slice P n2 c2] := Cs.new' _ _ _ (by simp)
  have hb := below2 w (.cells #[.int .i64 m] 3) (.cells #[.slice A k c, .slice (some ⟨w.heap.size, 0, none⟩) 1 1, .slice P n2 c2] 23)
  refine ⟨rfl, fun i zs hi => ?_⟩
  match i, hi with
  | 0, hi =>
    injection hi with hi
    subst hi
    exact ⟨A, k, c, hC.cell 0, (Reads.below h1 hb).more hb.size, hk⟩
  | 1, hi =>
    injection hi with hi
    subst hi
    exact ⟨_, 1, 1, hC.cell 1, (Reads.below (one_row w m) ((below1 _ _).mono (by simp))).more (by simp), by omega⟩
  | 2, hi =>
    injection hi with hi
    subst hi
    exact ⟨P, n2, c2, hC.cell 2, (Reads.below h2 hb).more hb.size, hn⟩

theorem two_rows (w : World) (k c : Nat) {n2 c2 : Nat} (A P : Option Addr) (xs ys : List Int) (h1 : RdI w w.heap.size A k xs) (h2 : RdI w w.heap.size P n2 ys) (hk : k < 2097152) (hn : n2 < 2097152) :
    RdR ((w.alloc (.cells #[.slice A k c, .slice P n2 c2] 23)).drew) w.heap.size 2 [xs, ys] := by
  have hC : Cs (w.alloc (.cells #[.slice A k c, .slice P n2 c2] 23)) w.heap.size 23 #[.slice A k c, .slice P n2 c2] := Cs.new _ _ _
  have hb := below1 w (.cells #[.slice A k c, .slice P n2 c2] 23)
  refine ⟨rfl, fun i zs hi => ?_⟩
  match i, hi with
  | 0, hi =>
    injection hi with hi
    subst hi
    exact ⟨A, k, c, hC.cell 0, (Reads.below h1 hb).more hb.size, hk⟩
  | 1, hi =>
    injection hi with hi
    subst hi
    exact ⟨P, n2, c2, hC.cell 1, (Reads.below h2 hb).more hb.size, hn⟩

set_option maxHeartbeats 2000000 in
theorem membersWith_yes {n c : Nat} {A : Option Addr} {zs : List Int} {a : Addr} (m : Int) (w : World) (hr : RdI w w.heap.size A n zs) (hn : n < 1099511627776) (hz : Mv zs) (hs : Sn w 0 a) (hh : hasB zs m = true) :
    Calls Tryd.prog 37 #[.slice A n c, .int .i64 m] w fun e w' => e = .returned (.tuple #[.slice A n c, snV a]) ∧ Below w.heap.size w w' := by
  have hr' := hid hr
  have hz' := hid hz
  have hh' := hid hh
  have hg : w.cell? ⟨0, 0, none⟩ = some (snV a) := hs
  clear hr hz hs hh
  go_enter Tryd.func37, Tryd.ntmps37
  go_wp2_with fail
  refine (BinarySearchV m _ hr'.out hn hz'.out.1).mono ?_
  rw [hh'.out]
  rintro e w' ⟨rfl, rfl⟩
  go_wp2
  go_quiet (fail)
  go_wp2
  go_ret2
  exact ⟨rfl, (Qt.drewN (Qt.refl _) _).below _⟩

set_option maxHeartbeats 4000000 in
theorem membersWith_no {n c : Nat} {A : Option Addr} {zs : List Int} (m : Int) (w : World) (hr : RdI w w.heap.size A n zs) (hc : n ≤ c ∧ c ≤ 9223372036854775807) (hn : 0 < n) (hz : Mv zs) (hh : hasB zs m = false) :
    Calls Tryd.prog 37 #[.slice A n c, .int .i64 m] w fun e w' => ∃ A' c', e = .returned (.tuple #[.slice A' (ins zs m).length c', .nilIface]) ∧ OwI w' w.heap.size (.slice A' (ins zs m).length c') (ins zs m) ∧ Below w.heap.size w w' := by
  obtain ⟨ad, rfl, hbl, -⟩ := hr.2 hn
  have hl := hr.len
  have h8 := hz.len
  have hk := cnt_le (zs := zs) m
  obtain ⟨k, hkk⟩ : ∃ k, cnt zs m = k := ⟨_, rfl⟩
  have hr' := hid hr
  have hz' := hid hz
  have hh' := hid hh
  have hkk' := hid hkk
  have hkn : k ≤ n := by omega
  have hkc : k ≤ c := by omega
  have hI : Hid (([zs.take k, [m], zs.drop k] : List (List Int)).flatten = ins zs m) := hid (by rw [ins, hkk]; simp)
  obtain ⟨h1, h2⟩ := hc
  have hT := hid (hr.takeV hkn)
  obtain ⟨P, hP⟩ : ∃ P, (if c = k then some ad else some (ad.add k)) = P := ⟨_, rfl⟩
  have hD := hid (show RdI w w.heap.size P (n - k) (zs.drop k) by rw [← hP]; exact hr.dropV hkn h1)
  have hRR := hid (show RdR (((w.alloc (.cells #[.int .i64 m] 3)).alloc (.cells #[.slice (some ad) k c, .slice (some ⟨w.heap.size, 0, none⟩) 1 1, .slice P (n - k) (c - k)] 23)).drew) (w.heap.size + 1) 3 [zs.take k, [m], zs.drop k] from
    three_rows w m k _ _ _ (zs.take k) (zs.drop k) hT.out hD.out (by omega) (by omega))
  have hbw := hid ((below2 w (.cells #[.int .i64 m] 3) (.cells #[.slice (some ad) k c, .slice (some ⟨w.heap.size, 0, none⟩) 1 1, .slice P (n - k) (c - k)] 23)).drew)
  clear hr hz hh hkk hT hD
  go_enter Tryd.func37, Tryd.ntmps37
  go_wp2_with fail
  refine (BinarySearchV m _ hr'.out (by omega) hz'.out.1).mono ?_
  rw [hh'.out, hkk'.out]
  rintro e w' ⟨rfl, rfl⟩
  go_wp2
  go_region_with (go_at_call 49; refine (ConcatV _ hRR.out (by omega) hI.out).mono ?_; rintro e w1 ⟨A', c', rfl, ho, hb⟩; have ho' := hid ho; have hb' := hid hb; clear ho hb)
  have hof := hid (ho'.out.more (show w.heap.size ≤ _ from hbw.out.size))
  have hbf := hid (hbw.out.trans (hb'.out.mono hbw.out.size))
  clear ho' hb' hRR hbw
  go_wp2
  go_ret2
  exact ⟨A', c', rfl, hof.out, hbf.out⟩

set_option maxHeartbeats 2000000 in
theorem membersWithout_no {n c : Nat} {A : Option Addr} {zs : List Int} {a : Addr} (m : Int) (w : World) (hr : RdI w w.heap.size A n zs) (hn : n < 1099511627776) (hz : zs.Pairwise (· < ·)) (hs : Sn w 2 a) (hh : hasB zs m = false) :
    Calls Tryd.prog 43 #[.slice A n c, .int .i64 m] w fun e w' => e = .returned (.tuple #[.slice A n c, snV a]) ∧ Below w.heap.size w w' := by
  have hr' := hid hr
  have hz' := hid hz
  have hh' := hid hh
  have hg : w.cell? ⟨2, 0, none⟩ = some (snV a) := hs
  clear hr hz hs hh
  go_enter Tryd.func43, Tryd.ntmps43
  go_wp2_with fail
  refine (BinarySearchV m _ hr'.out hn hz'.out).mono ?_
  rw [hh'.out]
  rintro e w' ⟨rfl, rfl⟩
  go_wp2
  go_quiet (fail)
  go_wp2
  go_ret2
  exact ⟨rfl, (Qt.drewN (Qt.refl _) _).below _⟩

set_option maxHeartbeats 4000000 in
theorem membersWithout_yes {n c : Nat} {A : Option Addr} {zs : List Int} (m : Int) (w : World) (hr : RdI w w.heap.size A n zs) (hc : n ≤ c ∧ c ≤ 9223372036854775807) (hn : n < 2097152) (hz : zs.Pairwise (· < ·)) (hh : hasB zs m = true) :
    Calls Tryd.prog 43 #[.slice A n c, .int .i64 m] w fun e w' => ∃ A' c', e = .returned (.tuple #[.slice A' (del zs m).length c', .nilIface]) ∧ OwI w' w.heap.size (.slice A' (del zs m).length c') (del zs m) ∧ Below w.heap.size w w' := by
  have hl := hr.len
  have hlt := cnt_lt (hasB_iff.1 hh)
  obtain ⟨ad, rfl, hbl, -⟩ := hr.2 (by omega)
  obtain ⟨k, hkk⟩ : ∃ k, cnt zs m = k := ⟨_, rfl⟩
  have hr' := hid hr
  have hz' := hid hz
  have hh' := hid hh
  have hkk' := hid hkk
  have hkn : k ≤ n := by omega
  have hkn1 : k + 1 ≤ n := by omega
  have hkc : k ≤ c := by omega
  have hkc1 : (k : Int) + 1 ≤ (c : Int) := by omega
  have hki : (k : Int) + 1 ≤ (n : Int) := by omega
  have hki0 : (0 : Int) ≤ (k : Int) + 1 := by omega
  have hw1 : IntKind.i64.wrap ((k : Int) + 1) = (k : Int) + 1 := IntWalk.i64_in _ (by omega)
  have ht1 : ((k : Int) + 1).toNat = k + 1 := by omega
  have hI : Hid (([zs.take k, zs.drop (k + 1)] : List (List Int)).flatten = del zs m) := hid (by rw [del, hkk]; simp)
  obtain ⟨h1, h2⟩ := hc
  have hT := hid (hr.takeV hkn)
  obtain ⟨P, hP⟩ : ∃ P, (if c = k + 1 then some ad else some ⟨ad.block, ad.off + (k + 1), none⟩) = P := ⟨_, rfl⟩
  have hD := hid (show RdI w w.heap.size P (n - (k + 1)) (zs.drop (k + 1)) by rw [← hP]; exact hr.dropV hkn1 h1)
  have hRR := hid (show RdR ((w.alloc (.cells #[.slice (some ad) k c, .slice P (n - (k + 1)) (c - (k + 1))] 23)).drew) w.heap.size 2 [zs.take k, zs.drop (k + 1)] from
    two_rows w k _ _ _ (zs.take k) (zs.drop (k + 1)) hT.out hD.out (by omega) (by omega))
  have hbw := hid ((below1 w (.cells #[.slice (some ad) k c, .slice P (n - (k + 1)) (c - (k + 1))] 23)).drew)
  clear hr hz hh hkk hT hD hlt
  go_enter Tryd.func43, Tryd.ntmps43
  go_wp2_with fail
  refine (BinarySearchV m _ hr'.out (by omega) hz'.out).mono ?_
  rw [hh'.out, hkk'.out]
  rintro e w' ⟨rfl, rfl⟩
  go_wp2
  go_region_with (go_at_call 49; refine (ConcatV _ hRR.out (by omega) hI.out).mono ?_; rintro e w1 ⟨A', c', rfl, ho, hb⟩; have ho' := hid ho; have hb' := hid hb; clear ho hb)
  have hof := hid (ho'.out.more (show w.heap.size ≤ _ from hbw.out.size))
  have hbf := hid (hbw.out.trans (hb'.out.mono hbw.out.size))
  clear ho' hb' hRR hbw
  go_wp2
  go_ret2
  exact ⟨A', c', rfl, hof.out, hbf.out⟩

/-- the zero view's box, at the head of what a call makes -/
abbrev vz : Array Value := #[.int .i64 0, .slice none 0 0]

set_option maxHeartbeats 4000000 in
theorem viewOf_yes {m c : Nat} {A : Option Addr} {zs : List Int} (n : Int) (w : World) (hr : RdI w w.heap.size A m zs) (hm : m < 1099511627776) (hv : vwB n zs = true) :
    Calls Tryd.prog 39 #[.int .i64 n, .slice A m c] w fun e w' => e = .returned (.tuple #[vwV n (.slice A m c), .nilIface]) ∧ Below w.heap.size w w' := by
  obtain ⟨W, hW⟩ : ∃ W, (w.alloc (.cells vz 25)).alloc (.cells #[.int .i64 n, .slice A m c] 25) = W := ⟨_, rfl⟩
  have hB := hid (show Below w.heap.size w W by rw [← hW]; exact below2 w _ _)
  have hC := hid (show Cs W (w.heap.size + 1) 25 #[.int .i64 n, .slice A m c] by rw [← hW]; exact Cs.new' _ _ _ (by simp))
  have hZ := hid (show Cs W w.heap.size 25 vz by rw [← hW]; exact (Cs.new w _ _).alloc _)
  have hr' := hid (show RdI W W.heap.size A m zs from (Reads.below hr hB.out).more hB.out.size)
  have hv' := hid hv
  replace hW := hid hW
  clear hr hv
  obtain ⟨d0, d1, -, -⟩ := hC.out.two
  go_enter Tryd.func39, Tryd.ntmps39
  go_upto_region 2 with (fail)
  rw [hW.out]
  go_wp2_with fail
  refine (ViewValid_impl n _ hr'.out hm hv'.out).mono ?_
  rintro e w1 ⟨rfl, hb⟩
  have hC1 := hid (hC.out.step hb)
  have hZ1 := hid (hZ.out.step hb)
  have hB1 := hid (hB.out.trans (hb.mono hB.out.size))
  clear hb hB hC hZ d0 d1 hr'
  obtain ⟨d0, d1, -, -⟩ := hC1.out.two
  obtain ⟨z0, z1, z2, z3⟩ := hZ1.out.two
  obtain ⟨y0, y1, -, -⟩ := ((hZ1.out.set 0 (.int .i64 n)).set 1 (.slice A m c)).two
  have hBf := hid ((hB1.out.setCell (p := ⟨w.heap.size, 0, none⟩) (Nat.le_refl _) (.int .i64 n)).setCell (p := ⟨w.heap.size, 1, none⟩) (Nat.le_refl _) (.slice A m c))
  clear hC1 hZ1 hB1
  go_wp2
  exact bodyPost_ret (v := .tuple #[vwV n (.slice A m c), .nilIface]) (by simp [results, Tryd.results39, go_sem, y0, y1]) rfl ⟨rfl, hBf.out⟩

set_option maxHeartbeats 4000000 in
theorem viewOf_no {m c : Nat} {A : Option Addr} {zs : List Int} {a : Addr} (n : Int) (w : World) (hr : RdI w w.heap.size A m zs) (hm : m < 1099511627776) (hs : Sn w 1 a) (hv : vwB n zs = false) :
    Calls Tryd.prog 39 #[.int .i64 n, .slice A m c] w fun e w' => e = .returned (.tuple #[vwV 0 (.slice none 0 0), snV a]) ∧ Below w.heap.size w w' := by
  obtain ⟨W, hW⟩ : ∃ W, (w.alloc (.cells vz 25)).alloc (.cells #[.int .i64 n, .slice A m c] 25) = W := ⟨_, rfl⟩
  have hB := hid (show Below w.heap.size w W by rw [← hW]; exact below2 w _ _)
  have hC := hid (show Cs W (w.heap.size + 1) 25 #[.int .i64 n, .slice A m c] by rw [← hW]; exact Cs.new' _ _ _ (by simp))
  have hZ := hid (show Cs W w.heap.size 25 vz by rw [← hW]; exact (Cs.new w _ _).alloc _)
  have hr' := hid (show RdI W W.heap.size A m zs from (Reads.below hr hB.out).more hB.out.size)
  have hs' := hid (hs.below hB.out)
  have hv' := hid hv
  replace hW := hid hW
  clear hr hv
  obtain ⟨d0, d1, -, -⟩ := hC.out.two
  go_enter Tryd.func39, Tryd.ntmps39
  go_upto_region 2 with (fail)
  rw [hW.out]
  go_wp2_with fail
  refine (ViewValid_impl n _ hr'.out hm hv'.out).mono ?_
  rintro e w1 ⟨rfl, hb⟩
  have hZ1 := hid (hZ.out.step hb)
  have hB1 := hid (hB.out.trans (hb.mono hB.out.size))
  have g0 : w1.cell? ⟨1, 0, none⟩ = some (snV a) := hs'.out.below hb
  have hlt : 1 < w.heap.size := hs.lt
  have g1 : ∀ (W : World) (i : Nat) (u : Value), (W.setCell ⟨w.heap.size, i, none⟩ u).cell? ⟨1, 0, none⟩ = W.cell? ⟨1, 0, none⟩ := fun W i u => World.cell?_setCell_other W _ _ u (fun e => by injection e with e; omega)
  have g2 := (g1 w1 0 (.int .i64 0)).trans g0
  have g3 := (g1 (w1.setCell ⟨w.heap.size, 0, none⟩ (.int .i64 0)) 1 (.slice none 0 0)).trans g2
  clear hb hB hC hZ d0 d1 hr' g1 hs
  obtain ⟨z0, z1, z2, z3⟩ := hZ1.out.two
  have y0 := (hZ1.out.set 0 (.int .i64 0)).two.1
  have y1 := ((hZ1.out.set 0 (.int .i64 0)).set 1 (.slice none 0 0)).two.2.1
  have hBf := hid (((hB1.out.setCell (p := ⟨w.heap.size, 0, none⟩) (Nat.le_refl _) (.int .i64 0)).setCell (p := ⟨w.heap.size, 1, none⟩) (Nat.le_refl _) (.slice none 0 0)).drew)
  clear hZ1 hB1
  go_wp2
  go_region
  all_goals go_wp2
  all_goals exact bodyPost_ret (v := .tuple #[vwV 0 (.slice none 0 0), snV a]) (by simp [results, Tryd.results39, go_sem, y0, y1]) rfl ⟨rfl, hBf.out⟩
end Go.Proofs.YtppdfgifnmfioaaDoor
