/-
  Contracts of the library at lists of ints: BinarySearch over ascending ones, IsSorted, Clone, Grow, Concat. No condition but lengths below 2^40.
-/
import Derived.Test.YtppdfgifnmfioaaDoorVwA
import Derived.Test.YtppdfgifnmfioaaDoorKp
import Derived.Test.YtppdfgifnmfioaaDoorRmHi
import Derived.Shelf.Spec.SlicesGrow
import Derived.Lib.SliceRun
namespace Go.Proofs.YtppdfgifnmfioaaDoor
open Go.RowKit
set_option linter.unusedVariables false
set_option linter.unusedSimpArgs false

set_option maxHeartbeats 400000 in
theorem isNaNV (x : Int) (w : World) : Calls Tryd.prog 55 #[.int .i64 x] w fun e w' => e = .returned (.bool false) ∧ w = w' := by
  have h : (x != x) = false := by simp
  go_enter Tryd.func55, Tryd.ntmps55
  go_wp2
  go_ret
  exact ⟨rfl, rfl⟩

set_option maxHeartbeats 400000 in
theorem isNaNS (x : Int) (w : World) : Calls Tryd.prog 53 #[.int .i64 x] w fun e w' => e = .returned (.bool false) ∧ w = w' := by
  have h : (x != x) = false := by simp
  go_enter Tryd.func53, Tryd.ntmps53
  go_wp2
  go_ret
  exact ⟨rfl, rfl⟩

set_option maxHeartbeats 400000 in
theorem LessV (x y : Int) (w : World) : Calls Tryd.prog 52 #[.int .i64 x, .int .i64 y] w fun e w' => e = .returned (.bool (decide (x < y))) ∧ w = w' := by
  go_enter Tryd.func52, Tryd.ntmps52
  go_wp2_with (go_at_call 55; (with_reducible refine (isNaNV _ _).mono ?_); rintro e w' ⟨rfl, rfl⟩)
  go_ret
  exact ⟨rfl, rfl⟩

theorem LessV_y {x y : Int} (h : x < y) (w : World) : Calls Tryd.prog 52 #[.int .i64 x, .int .i64 y] w fun e w' => e = .returned (.bool true) ∧ w = w' :=
  (LessV x y w).mono fun e w' ⟨h1, h2⟩ => ⟨by rw [h1]; simp [h], h2⟩

theorem LessV_n {x y : Int} (h : ¬ x < y) (w : World) : Calls Tryd.prog 52 #[.int .i64 x, .int .i64 y] w fun e w' => e = .returned (.bool false) ∧ w = w' :=
  (LessV x y w).mono fun e w' ⟨h1, h2⟩ => ⟨by rw [h1]; simp [h], h2⟩

theorem hasB_at {zs : List Int} {x : Int} (h : zs.Pairwise (· < ·)) : hasB zs x = (decide (cnt zs x < zs.length) && decide (zs.getD (cnt zs x) 0 = x)) := by
  rw [Bool.eq_iff_iff, hasB_iff, Bool.and_eq_true, decide_eq_true_eq, decide_eq_true_eq]
  constructor
  · intro hm
    refine ⟨cnt_lt hm, ?_⟩
    obtain ⟨i, hi, e⟩ := List.getElem_of_mem hm
    have e' : zs.getD i 0 = x := by simpa [hi] using e
    have : cnt zs x = i := cnt_of (by omega) (fun j hj => by rw [← e']; exact asc_at h hj hi) (fun j hj hjl => by
      rcases Nat.eq_or_lt_of_le hj with rfl | hlt
      · omega
      · have := asc_at h hlt hjl; omega)
    rw [this]; exact e'
  · rintro ⟨h1, h2⟩
    have : zs.getD (cnt zs x) 0 = zs[cnt zs x] := by simp [h1]
    rw [← h2, this]; exact List.getElem_mem h1

set_option maxHeartbeats 4000000 in
theorem BinarySearchV {B n c : Nat} {A : Option Addr} {zs : List Int} (x : Int) (w : World) (hr : RdI w B A n zs) (hn : n < 1099511627776) (ha : zs.Pairwise (· < ·)) :
    Calls Tryd.prog 46 #[.slice A n c, .int .i64 x] w fun e w' => e = .returned (.tuple #[.int .i64 (cnt zs x : Nat), .bool (hasB zs x)]) ∧ w = w' := by
  have hl' := hid hr.len
  have hr' := hid hr
  have S := hid ha
  clear hr ha
  go_enter Tryd.func46, Tryd.ntmps46
  go_wp2
  go_loop [7, 8] (fun s7 s8 => ∃ lo hi : Nat, s7 = .int .i64 lo ∧ s8 = .int .i64 hi ∧ lo ≤ hi ∧ hi ≤ n ∧ Hid (∀ t, t < lo → zs.getD t 0 < x) ∧ Hid (∀ t, hi ≤ t → t < n → x ≤ zs.getD t 0)) (fun s7 s8 => (intOf s8).toNat - (intOf s7).toNat)
  case atStart => exact ⟨0, n, rfl, rfl, Nat.zero_le _, Nat.le_refl _, hid (fun t ht => by omega), hid (fun t h1 h2 => by omega)⟩
  case round =>
    obtain ⟨lo, hi, rfl, rfl, hlh, hin, h1, h2⟩ := hrel
    by_cases hlt : lo < hi
    · obtain ⟨ad, y, rfl, hy, cm⟩ := hr'.out.at' (k := (lo + hi) / 2) (by omega)
      by_cases hyx : y < x
      · go_wp2_with (go_at_call 52; (with_reducible refine (LessV_y hyx _).mono ?_); rintro e w' ⟨rfl, rfl⟩)
        go_round
        case rel =>
          refine ⟨(lo + hi) / 2 + 1, hi, by rw [show ((lo : Int) + (hi : Int)) / 2 + 1 = (((lo + hi) / 2 + 1 : Nat) : Int) by omega], rfl, by omega, hin, hid (fun t ht => ?_), h2⟩
          rcases Nat.eq_or_lt_of_le (show t ≤ (lo + hi) / 2 by omega) with rfl | h3
          · rw [hy.out]; exact hyx
          · have := asc_at S.out h3 (by rw [hl'.out]; omega)
            rw [hy.out] at this; omega
        case measure => simp [intOf]; omega
      · go_wp2_with (go_at_call 52; (with_reducible refine (LessV_n hyx _).mono ?_); rintro e w' ⟨rfl, rfl⟩)
        go_round
        case rel =>
          refine ⟨lo, (lo + hi) / 2, rfl, by rw [show ((lo : Int) + (hi : Int)) / 2 = (((lo + hi) / 2 : Nat) : Int) by omega], by omega, by omega, h1, hid (fun t ht htn => ?_)⟩
          rcases Nat.eq_or_lt_of_le ht with rfl | h3
          · rw [hy.out]; omega
          · have := asc_at S.out h3 (by rw [hl'.out]; exact htn)
            rw [hy.out] at this; omega
        case measure => simp [intOf]; omega
    · obtain rfl : hi = lo := by omega
      have E := hid (cnt_of (zs := zs) (m := x) (k := hi) (by rw [hl'.out]; exact hin) h1.out (fun j h3 h4 => by have := h2.out j h3 (by rw [hl'.out] at h4; exact h4); omega))
      by_cases hn' : hi < n
      · obtain ⟨ad, y, rfl, hy, cl⟩ := hr'.out.at' (k := hi) hn'
        by_cases hyx : y = x
        · go_wp2_with (go_at_call 53; (with_reducible refine (isNaNS _ _).mono ?_); rintro e w' ⟨rfl, rfl⟩)
          go_ret2
          refine ⟨?_, rfl⟩
          rw [hasB_at S.out, E.out, hl'.out, hy.out, decide_eq_true hn', decide_eq_true hyx]
          first | rfl | simp [*]
        · go_wp2_with (go_at_call 53; (with_reducible refine (isNaNS _ _).mono ?_); rintro e w' ⟨rfl, rfl⟩)
          go_ret2
          refine ⟨?_, rfl⟩
          rw [hasB_at S.out, E.out, hl'.out, hy.out, decide_eq_true hn', decide_eq_false hyx]
          first | rfl | simp [*]
      · go_wp2_with (go_at_call 53; (with_reducible refine (isNaNS _ _).mono ?_); rintro e w' ⟨rfl, rfl⟩)
        go_ret2
        refine ⟨?_, rfl⟩
        rw [hasB_at S.out, E.out, hl'.out, decide_eq_false hn']
        first | rfl | simp [*]

theorem sorted_of {zs : List Int} (h : ∀ j, 0 < j → j < zs.length → ¬ zs.getD j 0 < zs.getD (j - 1) 0) : zs.Pairwise (· ≤ ·) := by
  have far : ∀ (d i : Nat), i + d + 1 < zs.length → zs.getD i 0 ≤ zs.getD (i + d + 1) 0 := by
    intro d
    induction d with
    | zero => intro i hi; have := h (i + 1) (by omega) hi; simp only [Nat.add_sub_cancel] at this; exact Int.not_lt.1 this
    | succ d ih => intro i hi; exact Int.le_trans (ih i (by omega)) (by have := h (i + d + 1 + 1) (by omega) (by omega); simp only [Nat.add_sub_cancel] at this; exact Int.not_lt.1 this)
  rw [List.pairwise_iff_getElem]
  intro i j hi hj hij
  have := far (j - i - 1) i (by omega)
  rw [show i + (j - i - 1) + 1 = j by omega] at this
  simpa [hi, hj] using this

theorem unsorted_of {zs : List Int} {j : Nat} (h0 : 0 < j) (hj : j < zs.length) (h : zs.getD j 0 < zs.getD (j - 1) 0) : ¬ zs.Pairwise (· ≤ ·) := by
  intro hp
  rw [List.pairwise_iff_getElem] at hp
  have := hp (j - 1) j (by omega) hj (by omega)
  have h1 : j - 1 < zs.length := by omega
  rw [show zs.getD j 0 = zs[j] by simp [hj], show zs.getD (j - 1) 0 = zs[j - 1] by simp [h1]] at h
  omega

set_option maxHeartbeats 4000000 in
theorem IsSortedV {B n c : Nat} {A : Option Addr} {zs : List Int} {r : Bool} (w : World) (hr : RdI w B A n zs) (hn : n < 1099511627776) (hR : r = true ↔ zs.Pairwise (· ≤ ·)) :
    Calls Tryd.prog 44 #[.slice A n c] w fun e w' => e = .returned (.bool r) ∧ Qt w w' := by
  have hl' := hid hr.len
  have hr' := hid hr
  have hR' := hid hR
  clear hr hR
  have hw0 : IntKind.i64.wrap ((n : Int) - 1) = (n : Int) - 1 := IntWalk.i64_in _ (by omega)
  go_enter Tryd.func44, Tryd.ntmps44
  go_wp2
  go_loopw [3] (fun i wr => ∃ (y : Int), y < n ∧ -1 ≤ y ∧ i = .int .i64 y ∧ Qt w wr ∧ Hid (∀ j : Nat, y < (j : Int) → 0 < j → j < n → ¬ zs.getD j 0 < zs.getD (j - 1) 0)) (fun i _ => (intOf i).toNat)
  case atStart => exact ⟨_, by omega, by omega, rfl, Qt.refl _, hid (fun j h h0 h2 => by omega)⟩
  case round =>
    clear hw0
    obtain ⟨y, hyn, hy1, rfl, hq, hall⟩ := hrel
    by_cases hlt : 0 < y
    · obtain ⟨k, rfl⟩ := Int.eq_ofNat_of_zero_le (show 0 ≤ y by omega)
      obtain ⟨ad, z, rfl, hz, hc⟩ := RdI.at' (hq.reads hr'.out) (k := k) (by omega)
      obtain ⟨ad2, y, e2, hy, hc2⟩ := RdI.at' (hq.reads hr'.out) (k := k - 1) (by omega)
      obtain rfl : ad = ad2 := by injection e2
      clear e2
      have hw : IntKind.i64.wrap ((k : Int) - 1) = (k : Int) - 1 := IntWalk.i64_in _ (by omega)
      have hp' : (0 : Int) ≤ (k : Int) - 1 := by omega
      have ht : ((k : Int) - 1).toNat = k - 1 := by omega
      have hlt' : (k : Int) - 1 < (n : Int) := by omega
      by_cases hzy : z < y
      · have hd : decide (z < y) = true := by simp [hzy]
        go_wp2
        go_quiet ((go_at_call 52; exact same_call (LessV_y (by omega) _)))
        clear hw ht
        go_wp2
        go_ret
        have hbad := unsorted_of (show 0 < k by omega) (by rw [hl'.out]; omega) (by rw [hz.out, hy.out]; exact hzy)
        refine ⟨ret_bool ?_, hq.drewN _⟩
        cases r with
        | false => rfl
        | true => exact absurd (hR'.out.1 rfl) hbad
      · go_wp2
        go_quiet ((go_at_call 52; exact same_call (LessV_n (by omega) _)))
        clear ht
        go_wp2
        go_roundw
        case rel => exact ⟨(k : Int) - 1, by omega, by omega, rfl, hq.drewN _, hid (fun j h h0 h2 => by
            by_cases e : j = k
            · subst e; rw [hz.out, hy.out]; omega
            · have := hall.out j (by omega) h0 h2; omega)⟩
        case measure => simp [intOf]; omega
    · go_wp2
      go_ret
      refine ⟨ret_bool ?_, hq⟩
      have hs := sorted_of (zs := zs) (fun j h0 hj => by have := hall.out j (by omega) h0 (by rw [hl'.out] at hj; exact hj); omega)
      exact (hR'.out.2 hs).symm

set_option maxRecDepth 100000 in
set_option maxHeartbeats 1000000 in
theorem CloneV {n c : Nat} {A : Option Addr} {zs : List Int} (w : World) (hr : RdI w w.heap.size A n zs) (hn : n < 1099511627776) :
    Calls Tryd.prog 47 #[.slice A n c] w fun e w' => ∃ A' c', e = .returned (.slice A' zs.length c') ∧ OwI w' w.heap.size (.slice A' zs.length c') zs ∧ Below w.heap.size w w' := by
  have hr' := hid hr
  have hl := hid hr.len
  clear hr
  have q22 := fun (w : World) (a : Option Addr) (n c n' c' : Nat) => Lib.run_eql_slice_nil (P := Tryd.prog) w 23 _ a n c n' c' Tryd.underlying23
  cases A with
  | none =>
    have h0 : n = 0 := by
      rcases Nat.eq_zero_or_pos n with h0 | h0
      · exact h0
      · obtain ⟨ad, h, _⟩ := hr'.out.2 h0
        cases h
    subst h0
    have hz : zs = [] := List.eq_nil_of_length_eq_zero hl.out
    subst hz
    go_enter Tryd.func47, Tryd.ntmps47
    go_wp2
    go_ret
    exact ⟨none, 0, rfl, World.ownsRow_nil _ _ _ _, Below.refl _ _⟩
  | some ad =>
    have h5 := hid (OwI.lit0 w rfl)
    have hr5 := hid (show RdI (w.alloc (.cells #[] 3)) w.heap.size (some ad) n zs from Reads.alloc hr'.out (Nat.le_refl _) _)
    have hB : w.heap.size ≤ (w.alloc (.cells #[] 3)).heap.size := by simp
    go_enter Tryd.func47, Tryd.ntmps47
    go_wp2_with (at_builtin; refine wpList_appH2 rfl (.tmp 5) (.tmp 6) rfl (B := w.heap.size) (v := .slice (some ⟨w.heap.size, 0, none⟩) 0 0) (zs := []) rfl rfl h5.out hr5.out hB (by simp; omega) ?_; intro v' w' hv hg hk)
    rw [List.nil_append] at hv
    obtain ⟨A', c', rfl, -⟩ := hv.form
    have hfin := hid (And.intro hv (((below1 w (.cells #[] 3))).grown hg hB (fun k h => by injection h with h; simp only at h; omega)))
    clear hv hg hk
    go_wp2
    go_ret
    exact ⟨A', c', rfl, hfin.out.1, hfin.out.2⟩

/-- this program's numbers of the library's functions -/
def rhoG : Shelf.Ren where
  f := fun n => if n = 4 then 54 else n
  t := fun n => if n = 0 then 0 else if n = 3 then 3 else if n = 4 then 4 else if n = 9 then 9 else if n = 20 then 20 else if n = 22 then 23 else if n = 25 then 3 else n
  g := fun n => n

theorem laysG : Lays8.n4 Tryd.prog rhoG where
  mixed := by kernel_rfl
  f4 := ⟨"slices.Grow[[]int,int]", rfl, by kernel_rfl⟩
  t0 := by kernel_rfl
  a0 := fun _ => by kernel_rfl
  z0 := fun _ => by kernel_rfl
  v0 := fun _ => by kernel_rfl
  t3 := by kernel_rfl
  a3 := fun _ => by kernel_rfl
  z3 := fun _ => by kernel_rfl
  v3 := fun _ => by kernel_rfl
  t4 := by kernel_rfl
  a4 := fun _ => by kernel_rfl
  z4 := fun _ => by kernel_rfl
  v4 := fun _ => by kernel_rfl
  t9 := by kernel_rfl
  a9 := fun _ => by kernel_rfl
  z9 := fun _ => by kernel_rfl
  v9 := fun _ => by kernel_rfl
  t20 := by kernel_rfl
  a20 := fun _ => by kernel_rfl
  z20 := fun _ => by kernel_rfl
  v20 := fun _ => by kernel_rfl
  t22 := by kernel_rfl
  a22 := fun _ => by kernel_rfl
  z22 := fun _ => by kernel_rfl
  v22 := fun _ => by kernel_rfl

theorem zero_sizeV (k : Nat) : (Builtin.zeroCells (Value.int .i64 0).cells k).size = k := by simp [Builtin.zeroCells, Value.cells]
/-- room for n numbers -/
theorem GrowV (n : Nat) (w : World) (hn : n < 1099511627776) :
    Calls Tryd.prog 54 #[.slice none 0 0, .int .i64 n] w fun e w' => ∃ v, e = .returned v ∧ OwI w' w.heap.size v [] ∧ Below w.heap.size w w' := by
  by_cases h : n = 0
  · subst h
    refine (Any8.slices_Grow_room laysG none 0 0 0 w (by omega) (by omega) (by omega) (by omega)).mono ?_
    rintro e w' ⟨rfl, rfl⟩
    exact ⟨_, rfl, World.ownsRow_nil _ _ _ _, Below.refl _ _⟩
  · obtain ⟨i0, hi, hz0, hz1, hz2⟩ := info_parts info_int
    refine (Any8.slices_Grow_grow laysG i0 (.int .i64 0) hi hz0 (by rw [hz1]; decide) none 0 0 n [] w (by omega) (by omega) (by rw [hz2]; omega) (by omega) (by simp) (fun _ => rfl) (fun a h => by cases h)).mono ?_
    rintro e w' ⟨rfl, rfl⟩
    have h1 := grownCap_ge w (0 + n) 0 (rhoG.t 25)
    have h2 := grownCap_le_maxLen w (0 + n) 0 (rhoG.t 25) (by unfold maxLen; omega)
    refine ⟨_, rfl, ⟨rfl, .inr ⟨w.heap.size, _, _, rfl, Nat.le_refl _, heap_alloc_new w.drew _, Nat.zero_le _, h2, ?_, by simp [ints]⟩⟩, (Below.refl _ _).drew.alloc (Nat.le_refl _) _⟩
    generalize grownCap w (0 + n) 0 (rhoG.t 25) = G at h1 h2 ⊢
    rw [Array.size_append, Array.size_append, zero_sizeV, zero_sizeV]
    show 0 + (0 + n - 0) + (G - (0 + n)) = G * 1
    omega

theorem flat_take {zss : List (List Int)} {k : Nat} {zs : List Int} (h : zss[k]? = some zs) : (zss.take (k + 1)).flatten = (zss.take k).flatten ++ zs := by
  rw [List.take_add_one, h]; simp
/-- rows of numbers, listed in a block -/
def RdR (w : World) (b m : Nat) (zss : List (List Int)) : Prop := zss.length = m ∧ ∀ (k : Nat) (zs : List Int), zss[k]? = some zs → ∃ A n c, w.cell? ⟨b, k, none⟩ = some (.slice A n c) ∧ RdI w w.heap.size A n zs ∧ n < 2097152

theorem RdR.step {w w' : World} {b m : Nat} {zss : List (List Int)} (h : RdR w b m zss) (hb : Below w.heap.size w w') : RdR w' b m zss :=
  ⟨h.1, fun k zs hk => by
    obtain ⟨A, n, c, h1, h2, h3⟩ := h.2 k zs hk
    exact ⟨A, n, c, (hb.cell (p := ⟨b, k, none⟩) (World.block_lt_of_cell? w _ h1)).trans h1, (Reads.below h2 hb).more hb.size, h3⟩⟩

theorem RdR.at_ {w : World} {b m k : Nat} {zss : List (List Int)} (h : RdR w b m zss) (hk : k < m) : ∃ zs A n c, Hid (zss[k]? = some zs) ∧ Hid (zs.length = n) ∧ w.cell? ⟨b, k, none⟩ = some (.slice A n c) ∧ Hid (RdI w w.heap.size A n zs) ∧ n < 2097152 := by
  have hl : k < zss.length := by rw [h.1]; exact hk
  obtain ⟨A, n, c, h1, h2, h3⟩ := h.2 k _ (List.getElem?_eq_getElem hl)
  exact ⟨_, A, n, c, List.getElem?_eq_getElem hl, h2.len, h1, h2, h3⟩

set_option maxHeartbeats 8000000 in
theorem ConcatV {b m c : Nat} {zss : List (List Int)} {L : List Int} (w : World) (hr : RdR w b m zss) (hm : m ≤ 8) (hF : zss.flatten = L) :
    Calls Tryd.prog 49 #[.slice (some ⟨b, 0, none⟩) m c] w fun e w' => ∃ A' c', e = .returned (.slice A' L.length c') ∧ OwI w' w.heap.size (.slice A' L.length c') L ∧ Below w.heap.size w w' := by
  have hr' := hid hr
  have hl := hid hr.1
  have hF' := hid hF
  clear hr hF
  go_enter Tryd.func49, Tryd.ntmps49
  go_wp2
  go_loop [3, 11] (fun s i => ∃ (k x : Nat), k ≤ m ∧ i = .int .i64 k ∧ s = .int .i64 x ∧ x ≤ k * 2097152) (fun _ i => m - (intOf i).toNat)
  case atStart => exact ⟨0, 0, by omega, rfl, rfl, by omega⟩
  case round =>
    obtain ⟨k, x, hk, rfl, rfl, hx⟩ := hrel
    by_cases hlt : k < m
    · obtain ⟨zs, A, n, cc, hzs, hn, hc, hri, hn'⟩ := hr'.out.at_ hlt
      have i0 : (0 : Int) ≤ (k : Int) := by omega
      have i1 : (k : Int) < (m : Int) := by omega
      have hw : IntKind.i64.wrap ((x : Int) + (n : Int)) = ((x + n : Nat) : Int) := by rw [IntWalk.i64_in _ (by omega)]; omega
      have hneg : ¬ (((x + n : Nat) : Int) < 0) := by omega
      go_wp2
      go_round
      case rel => exact ⟨k + 1, x + n, by omega, by go_num, by first | rfl | (congr 1; omega), by omega⟩
      case measure => simp [intOf]; omega
    · have hkn : ¬ ((k : Int) < (m : Int)) := by omega
      have hx40 : x < 1099511627776 := by omega
      clear hlt
      go_wp2_with fail
      refine (GrowV x w hx40).mono ?_
      rintro e w1 ⟨v, rfl, hown, hb⟩
      have hO := hid (show OwI w1 w.heap.size v (zss.take 0).flatten by simpa using hown)
      have hB := hid hb
      clear hown hb
      go_wp2
      go_loopw [6, 27] (fun o i wr => ∃ (j : Nat), j ≤ m ∧ i = .int .i64 j ∧ Hid (OwI wr w.heap.size o (zss.take j).flatten) ∧ Hid (Below w.heap.size w wr) ∧ Hid ((zss.take j).flatten.length ≤ j * 2097152)) (fun _ i _ => m - (intOf i).toNat)
      case atStart => exact ⟨0, by omega, rfl, hO, hB, hid (by simp)⟩
      case round =>
        clear hO hB
        obtain ⟨j, hj, rfl, hO, hB, hlen⟩ := hrel
        by_cases hlt : j < m
        · obtain ⟨zs, A, n, cc, hzs, hn, hc, hri, hn'⟩ := (hr'.out.step hB.out).at_ hlt
          have i0 : (0 : Int) ≤ (j : Int) := by omega
          have i1 : (j : Int) < (m : Int) := by omega
          have hlen' := hlen.out
          have hz := hB.out.size
          have hnew := hid (flat_take hzs.out)
          go_wp2_with (at_builtin; refine wpList_appH2 rfl (.tmp 31) (.tmp 32) rfl (B := w.heap.size) rfl rfl hO.out hri.out hz (by omega) ?_; intro v' w' hv hg hk)
          have hv' := hid hv
          have hb' := hid (hB.out.grown hg hz (fun g hg => (hO.out.lt g hg).1))
          have hl2 : Hid ((zss.take (j + 1)).flatten.length ≤ (j + 1) * 2097152) := hid (by rw [hnew.out, List.length_append, hn.out]; omega)
          rw [← hnew.out] at hv'
          clear hv hg hk hO hB hlen hlen' hc hri
          go_wp2
          go_roundw
          case rel => exact ⟨j + 1, by omega, by go_num, hv', hb', hl2⟩
          case measure => simp [intOf]; omega
        · have hjm : ¬ ((j : Int) < (m : Int)) := by omega
          rw [List.take_of_length_le (by rw [hl.out]; omega), hF'.out] at hO
          obtain ⟨A', c', e, -⟩ := hO.out.form
          subst e
          go_wp2
          go_ret
          exact ⟨A', c', rfl, hO.out, hB.out⟩
end Go.Proofs.YtppdfgifnmfioaaDoor
