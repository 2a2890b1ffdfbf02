/-
  What the exact law of ViewValid needs: the two checks, the law's helpers. No condition but lengths below 2^40.
-/
import Derived.Test.YtohbbpmjoaklhaaVwA
import Derived.Test.YtohbbpmjoaklhaaKp
import Derived.Laws.MakeOwn
import Derived.Deep.RegionHeld3
import Derived.Deep.CutBlock
import Derived.Deep.RegionLaw
import Derived.Deep.RegionWith
import Derived.Deep.DeepCutAuto
import Derived.Lib.SliceRun
namespace Go.Proofs.Ytohbbpmjoaklhaa
open Go.RowKit
set_option linter.unusedVariables false
set_option linter.unusedSimpArgs false

/-- a view by value -/
abbrev vwV (n : Int) (v : Value) : Value := .agg #[.int .i64 n, v]

set_option maxHeartbeats 2000000 in
theorem membersValid_any {B n c : Nat} {A : Option Addr} {zs : List Int} (w : World) (hr : RdI w B A n zs) (hn : n < 1099511627776) :
    Calls Try.prog 13 #[.slice A n c] w fun e w' => e = .returned (.bool (mvB zs && decide (0 < n))) ∧ w = w' := by
  have hl := hid hr.len
  have hr' := hid hr
  clear hr
  go_enter Try.func13, Try.ntmps13
  go_wp2
  go_loop [3, 8] (fun l i => ∃ (k : Nat) (x : Int), k ≤ n ∧ i = .int .i64 k ∧ l = .int .i64 x ∧ Hid (lastM zs k = x) ∧ Hid (∀ j, j < k → mvAt zs j = true)) (fun _ i => n - (intOf i).toNat)
  case atStart => exact ⟨0, -1, by omega, rfl, rfl, rfl, hid (fun j h => by omega)⟩
  case round =>
    obtain ⟨k, x, hk, rfl, rfl, hx, hall⟩ := hrel
    by_cases hlt : k < n
    · obtain ⟨ad, z, rfl, hz, hc⟩ := hr'.out.at' hlt
      have hv := hid (mvAt_last hz.out hx.out hall.out)
      by_cases h1 : z ≤ x
      · have hbad : Hid (mvB zs = false) := hid (mvB_of_bad (i := k) (by rw [hl.out]; exact hlt) (by rw [hv.out, decide_eq_false (show ¬ x < z by omega)]; rfl))
        go_wp2
        go_ret
        exact ⟨ret_bool (by rw [hbad.out]; rfl), rfl⟩
      · by_cases h2 : z < 8
        · have hok : Hid (mvAt zs k = true) := hid (by rw [hv.out, decide_eq_true (show x < z by omega), decide_eq_true h2]; rfl)
          have h3 : ¬ (z ≥ 8) := by omega
          go_wp2
          go_round
          case rel => exact ⟨k + 1, z, by omega, by go_num, rfl, lastM_succ hz.out, hid (fun j hj => by
              by_cases e : j = k
              · subst e; exact hok.out
              · exact hall.out j (by omega))⟩
          case measure => simp [intOf]; omega
        · have hbad : Hid (mvB zs = false) := hid (mvB_of_bad (i := k) (by rw [hl.out]; exact hlt) (by rw [hv.out, decide_eq_false h2]; simp))
          have h3 : z ≥ 8 := by omega
          go_wp2
          go_ret
          exact ⟨ret_bool (by rw [hbad.out]; rfl), rfl⟩
    · have hm := hid (mvB_of_all (zs := zs) (fun i hi => hall.out i (by rw [hl.out] at hi; omega)))
      go_wp2
      go_ret
      exact ⟨ret_bool (by rw [hm.out]; simp), rfl⟩

theorem OwI.capV {w : World} {B n c : Nat} {A : Option Addr} {zs : List Int} (h : OwI w B (.slice A n c) zs) : zs.length = n ∧ n ≤ c ∧ c ≤ 9223372036854775807 := by
  rcases h.2 with ⟨e, h0⟩ | ⟨g, cap, cur, e, hb, hh, h1, h2, h3, h4⟩
  · injection e with _ e2 e3
    omega
  · injection e with _ e2 e3
    simp only [maxLen] at h2
    omega

set_option maxHeartbeats 2000000 in
theorem ViewValid_impl {m c : Nat} {A : Option Addr} {zs : List Int} {r : Bool} (n : Int) (w : World) (hr : RdI w w.heap.size A m zs) (hm : m < 1099511627776) (hR : vwB n zs = r) :
    Calls Try.prog 7 #[vwV n (.slice A m c)] w fun e w' => e = .returned (.bool r) ∧ Below w.heap.size w w' := by
  have hB := hid (below1 w (.cells #[.int .i64 n, .slice A m c] 27))
  have hr' := hid (show RdI (w.alloc (.cells #[.int .i64 n, .slice A m c] 27)) w.heap.size A m zs from Reads.alloc hr (Nat.le_refl _) _)
  have hl := hid hr.len
  have hR' := hid hR
  clear hr hR
  by_cases h0 : 0 ≤ n
  · by_cases h9 : n ≤ 99
    · have hv : Hid ((mvB zs && decide (0 < m)) = r) := hid (by rw [← hR'.out, ← hl.out, vwB, inB, decide_eq_true h0, decide_eq_true h9, Bool.and_comm]; rfl)
      go_enter Try.func7, Try.ntmps7
      go_wp2_with (go_at_call 13; (with_reducible refine (membersValid_any _ hr'.out hm).mono ?_); rw [hv.out]; rintro e w2 ⟨rfl, rfl⟩)
      go_ret
      exact ⟨by simp, hB.out⟩
    · have hv : Hid (r = false) := hid (by rw [← hR'.out, vwB, inB, decide_eq_false h9]; simp)
      go_enter Try.func7, Try.ntmps7
      go_wp2
      go_ret
      exact ⟨by rw [hv.out]; rfl, hB.out⟩
  · have hv : Hid (r = false) := hid (by rw [← hR'.out, vwB, inB, decide_eq_false h0]; simp)
    go_enter Try.func7, Try.ntmps7
    go_wp2
    go_ret
    exact ⟨by rw [hv.out]; rfl, hB.out⟩

/-- the zero view's box, at the head of what a call makes -/
abbrev vz : Array Value := #[.int .i64 0, .slice none 0 0]

theorem OwI.lit0 (w : World) {b : Nat} (h : w.heap.size = b) : OwI (w.alloc (.cells #[] 3)) b (.slice (some ⟨b, 0, none⟩) 0 0) [] := by
  subst h; exact OwI.empty_lit w (Nat.le_refl _)

theorem OwI.alloc_ {w : World} {B : Nat} {v : Value} {zs : List Int} (h : OwI w B v zs) (o : Obj) : OwI (w.alloc o) B v zs := own_of_block h fun g hg => Below.heap_alloc w o g (h.lt g hg).2

theorem l6In_asV {n lo hi : Int} {r : Bool} (h : inB n lo hi = r) (w : World) : Calls Try.prog 10 #[.int .i64 n, .int .i64 lo, .int .i64 hi] w fun e w' => e = .returned (.bool r) ∧ w = w' := by
  subst h; exact l6In_any n lo hi w

set_option maxHeartbeats 4000000 in
theorem l23Members_any {B n c : Nat} {A : Option Addr} {zs : List Int} {R : Bool} (w : World) (hr : RdI w B A n zs) (hn : n < 1099511627776) (hR : mvB zs = R) :
    Calls Try.prog 11 #[.slice A n c] w fun e w' => e = .returned (.bool R) ∧ Qt w w' := by
  have hl' := hid hr.len
  have hr' := hid hr
  have hR' := hid hR
  clear hr hR
  go_enter Try.func11, Try.ntmps11
  go_wp2
  go_loopw [3] (fun i wr => ∃ k : Nat, k ≤ n ∧ i = .int .i64 k ∧ Qt w wr ∧ Hid (∀ j, j < k → mvAt zs j = true)) (fun i _ => n - (intOf i).toNat)
  case atStart => exact ⟨0, Nat.zero_le _, rfl, Qt.refl _, hid (fun j h => by omega)⟩
  case round =>
    obtain ⟨k, hk, rfl, hq, hall⟩ := hrel
    by_cases hlt : k < n
    · obtain ⟨ad, z, rfl, hz, hc⟩ := RdI.at' (hq.reads hr'.out) hlt
      have hbad : mvAt zs k = false → Hid (R = false) := fun h => hid (by rw [← hR'.out]; exact mvB_of_bad (i := k) (by rw [hl'.out]; exact hlt) h)
      rcases Nat.eq_zero_or_pos k with h0 | h0
      · have hd : decide (0 < k) = false := by simp; omega
        have H0 := hid h0
        clear h0
        by_cases hg : inB z 0 7 = true
        · have hg' := hid hg
          have hok : Hid (mvAt zs k = true) := hid (by rw [mvAt, hz.out, hg, H0.out]; rfl)
          clear hg hbad
          go_wp2
          go_quiet ((go_at_call 10; exact same_call (l6In_asV hg'.out _)))
          go_wp2
          go_roundw
          case rel => exact ⟨k + 1, by omega, by go_num, hq.drewN _, hid (fun j hj => by
              by_cases e : j = k
              · subst e; exact hok.out
              · exact hall.out j (by omega))⟩
          case measure => simp [intOf]; omega
        · have hg' : Hid (inB z 0 7 = false) := hid (by simpa using hg)
          have hb := hbad (by rw [mvAt, hz.out, hg'.out]; rfl)
          clear hg hbad
          go_wp2
          go_quiet ((go_at_call 10; exact same_call (l6In_asV hg'.out _)))
          go_wp2
          go_ret
          exact ⟨ret_bool hb.out.symm, hq.drewN _⟩
      · have hd : decide (0 < k) = true := by simp; omega
        obtain ⟨ad2, y, e2, hy, hc2⟩ := RdI.at' (hq.reads hr'.out) (k := k - 1) (by omega)
        obtain rfl : ad = ad2 := by injection e2
        clear e2
        have hw : IntKind.i64.wrap ((k : Int) - 1) = (k : Int) - 1 := IntWalk.i64_in _ (by omega)
        have hp : (1 : Int) ≤ (k : Int) := by omega
        have hp' : (0 : Int) ≤ (k : Int) - 1 := by omega
        have ht : ((k : Int) - 1).toNat = k - 1 := by omega
        have hlt' : (k : Int) - 1 < (n : Int) := by omega
        have H0 := hid h0
        by_cases hg : inB z 0 7 = true
        · have hg' := hid hg
          clear hg
          by_cases hzy : z ≤ y
          · have hb := hbad (mvAt_false H0.out hz.out hy.out hzy)
            clear hbad
            go_wp2
            go_quiet ((go_at_call 10; exact same_call (l6In_asV hg'.out _)))
            clear hw ht
            go_wp2
            go_ret
            exact ⟨ret_bool hb.out.symm, hq.drewN _⟩
          · have hok : Hid (mvAt zs k = true) := hid (mvAt_true hg'.out hz.out hy.out (by omega))
            clear hbad
            go_wp2
            go_quiet ((go_at_call 10; exact same_call (l6In_asV hg'.out _)))
            clear hw ht
            go_wp2
            go_roundw
            case rel => exact ⟨k + 1, by omega, by go_num, hq.drewN _, hid (fun j hj => by
                by_cases e : j = k
                · subst e; exact hok.out
                · exact hall.out j (by omega))⟩
            case measure => simp [intOf]; omega
        · have hg' : Hid (inB z 0 7 = false) := hid (by simpa using hg)
          have hb := hbad (by rw [mvAt, hz.out, hg'.out]; rfl)
          clear hg hbad
          go_wp2
          go_quiet ((go_at_call 10; exact same_call (l6In_asV hg'.out _)))
          clear hw ht
          go_wp2
          go_ret
          exact ⟨ret_bool hb.out.symm, hq.drewN _⟩
    · have hb : Hid (R = true) := hid (by rw [← hR'.out]; exact mvB_of_all (fun i hi => hall.out i (by rw [hl'.out] at hi; omega)))
      go_wp2
      go_ret
      exact ⟨ret_bool hb.out.symm, hq⟩

set_option maxHeartbeats 2000000 in
theorem ViewValid_spec {m c : Nat} {A : Option Addr} {zs : List Int} {r : Bool} (n : Int) (w : World) (hr : RdI w w.heap.size A m zs) (hm : m < 1099511627776) (hR : vwB n zs = r) :
    Calls Try.prog 5 #[vwV n (.slice A m c)] w fun e w' => e = .returned (.bool r) ∧ Below w.heap.size w w' := by
  obtain ⟨W, hW⟩ : ∃ W, w.alloc (.cells #[.int .i64 n, .slice A m c] 27) = W := ⟨_, rfl⟩
  have hB := hid (show Below w.heap.size w W by rw [← hW]; exact below1 w _)
  have hC := hid (show Cs W w.heap.size 27 #[.int .i64 n, .slice A m c] by rw [← hW]; exact Cs.new w _ _)
  have hr' := hid (show RdI W w.heap.size A m zs by rw [← hW]; exact Reads.alloc hr (Nat.le_refl _) _)
  have hl := hid hr.len
  have hR' := hid hR
  replace hW := hid hW
  clear hr hR
  obtain ⟨d0, d1, -, -⟩ := hC.out.two
  cases h9 : inB n 0 99 with
  | false =>
    have hv : Hid (r = false) := hid (by rw [← hR'.out, vwB, h9]; rfl)
    have h9' := hid h9
    clear h9
    go_enter Try.func5, Try.ntmps5
    go_upto_region 1 with (fail)
    rw [hW.out]
    go_wp2_with (go_at_call 10; (with_reducible refine (l6In_asV h9'.out _).mono ?_); rintro e w2 ⟨rfl, rfl⟩)
    go_ret
    exact ⟨by rw [hv.out]; rfl, hB.out⟩
  | true =>
    have h9' := hid h9
    by_cases h0 : 0 < m
    · have hv : Hid (mvB zs = r) := hid (by rw [← hR'.out, vwB, h9, hl.out, decide_eq_true h0]; rfl)
      clear h9
      go_enter Try.func5, Try.ntmps5
      go_upto_region 1 with (fail)
      rw [hW.out]
      go_wp2_with (first | (go_at_call 10; (with_reducible refine (l6In_asV h9'.out _).mono ?_); rintro e w2 ⟨rfl, rfl⟩) | (go_at_call 11; (with_reducible refine (l23Members_any _ hr'.out hm hv.out).mono ?_); rintro e w2 ⟨rfl, hq⟩))
      go_ret
      exact ⟨by simp, hB.out.trans ((hq.below w2.heap.size).mono (by rw [hq.size]; exact hB.out.size))⟩
    · have hv : Hid (r = false) := hid (by rw [← hR'.out, vwB, hl.out, decide_eq_false h0]; simp)
      clear h9
      go_enter Try.func5, Try.ntmps5
      go_upto_region 1 with (fail)
      rw [hW.out]
      go_wp2_with (go_at_call 10; (with_reducible refine (l6In_asV h9'.out _).mono ?_); rintro e w2 ⟨rfl, rfl⟩)
      go_ret
      exact ⟨by rw [hv.out]; rfl, hB.out⟩

/-- a result's box behind its filling -/
theorem Cs.fillV {w W : World} {b : Nat} {a0 a1 : Value} (h : Cs W b 27 #[a0, a1]) (hB : Below w.heap.size w W) (hb : w.heap.size ≤ b) (u0 u1 : Value) :
    Cs ((W.setCell ⟨b, 0, none⟩ u0).setCell ⟨b, 1, none⟩ u1) b 27 #[u0, u1] ∧ Below w.heap.size w ((W.setCell ⟨b, 0, none⟩ u0).setCell ⟨b, 1, none⟩ u1) :=
  ⟨(h.set 0 u0).set 1 u1, (hB.setCell (p := ⟨b, 0, none⟩) hb u0).setCell (p := ⟨b, 1, none⟩) hb u1⟩

theorem OwI.fillV {W : World} {B b : Nat} {v : Value} {zs : List Int} {a0 a1 : Value} (h : OwI W B v zs) (hc : Cs W b 27 #[a0, a1]) (u0 u1 : Value) : OwI ((W.setCell ⟨b, 0, none⟩ u0).setCell ⟨b, 1, none⟩ u1) B v zs := by
  have hne := cs_type hc h (by decide)
  exact own_of_block h fun g hg => (Below.heap_setCell _ ⟨b, 1, none⟩ u1 g (fun e => hne (by rw [hg, e]))).trans (Below.heap_setCell W ⟨b, 0, none⟩ u0 g (fun e => hne (by rw [hg, e])))

theorem sameB_selfV (zs : List Int) : sameB zs zs = true := by simp [sameB]

set_option maxHeartbeats 1000000 in
theorem szIntSV_y {n c : Nat} {A : Option Addr} {l : Int} (w : World) (h : (n : Int) ≤ l) (h0 : 0 ≤ l) (h1 : l ≤ 1048576) :
    Calls Try.prog 9 #[.slice A n c, .int .i64 l] w fun e w' => e = .returned (.int .i64 (l - (n : Int))) ∧ w = w' := by
  go_enter Try.func9, Try.ntmps9
  go_wp2
  go_ret
  exact ⟨rfl, rfl⟩

set_option maxHeartbeats 1000000 in
theorem szIntSV_n {n c : Nat} {A : Option Addr} {l : Int} (w : World) (hn : n ≤ 9223372036854775807) (h : ¬ (n : Int) ≤ l) (h0 : 0 ≤ l) (h1 : l ≤ 1048576) :
    Calls Try.prog 9 #[.slice A n c, .int .i64 l] w fun e w' => e = .returned (.int .i64 (-1)) ∧ w = w' := by
  go_enter Try.func9, Try.ntmps9
  go_wp2
  go_ret
  exact ⟨rfl, rfl⟩

set_option maxHeartbeats 1000000 in
theorem szView_y {m c : Nat} {A : Option Addr} {l : Int} (n : Int) (w : World) (h : (m : Int) ≤ l) (h0 : 0 ≤ l) (h1 : l ≤ 1048576) :
    Calls Try.prog 4 #[vwV n (.slice A m c), .int .i64 l] w fun e w' => e = .returned (.int .i64 (l - (m : Int))) ∧ Below w.heap.size w w' := by
  have hB := hid (below1 w (.cells #[.int .i64 n, .slice A m c] 24))
  have g0 : ¬ (l - (m : Int) < 0) := by omega
  go_enter Try.func4, Try.ntmps4
  go_wp2_with (go_at_call 9; (with_reducible refine (szIntSV_y _ h h0 h1).mono ?_); rintro e w2 ⟨rfl, rfl⟩)
  go_ret
  exact ⟨rfl, hB.out⟩

set_option maxHeartbeats 1000000 in
theorem szView_n {m c : Nat} {A : Option Addr} {l : Int} (n : Int) (w : World) (hn : m ≤ 9223372036854775807) (h : ¬ (m : Int) ≤ l) (h0 : 0 ≤ l) (h1 : l ≤ 1048576) :
    Calls Try.prog 4 #[vwV n (.slice A m c), .int .i64 l] w fun e w' => e = .returned (.int .i64 (-1)) ∧ Below w.heap.size w w' := by
  have hB := hid (below1 w (.cells #[.int .i64 n, .slice A m c] 24))
  go_enter Try.func4, Try.ntmps4
  go_wp2_with (go_at_call 9; (with_reducible refine (szIntSV_n _ hn h h0 h1).mono ?_); rintro e w2 ⟨rfl, rfl⟩)
  go_ret
  exact ⟨rfl, hB.out⟩

set_option maxHeartbeats 4000000 in
theorem toView_any {m c : Nat} {A : Option Addr} {zs : List Int} (n : Int) (w : World) (hr : RdI w w.heap.size A m zs) (hm : m < 1099511627776) :
    Calls Try.prog 6 #[vwV n (.slice A m c)] w fun e w' => ∃ A' c', e = .returned (vwV n (.slice A' zs.length c')) ∧ OwI w' w.heap.size (.slice A' zs.length c') zs ∧ Below w.heap.size w w' := by
  obtain ⟨W, hW⟩ : ∃ W, (((w.alloc (.cells #[.int .i64 n, .slice A m c] 24)).alloc (.cells vz 27)).alloc (.cells #[.int .i64 n, .slice none 0 0] 27)) = W := ⟨_, rfl⟩
  have B := hid (show Below w.heap.size w W by rw [← hW]; exact below3 w _ _ _)
  have C0 := hid (show Cs W w.heap.size 24 #[.int .i64 n, .slice A m c] by rw [← hW]; exact ((Cs.new w _ _).alloc _).alloc _)
  have C1 := hid (show Cs W (w.heap.size + 1) 27 vz by rw [← hW]; exact (Cs.new' _ _ _ (by simp)).alloc _)
  have C2 := hid (show Cs W (w.heap.size + 1 + 1) 27 #[.int .i64 n, .slice none 0 0] by rw [← hW]; exact Cs.new' _ _ _ (by simp))
  have hz : w.heap.size + 1 + 1 < W.heap.size := C2.out.lt
  have X := hid ((Reads.below hr B.out).more B.out.size)
  replace hW := hid hW
  clear hr
  go_enter Try.func6, Try.ntmps6
  go_upto_region 3 with (fail)
  rw [hW.out]
  obtain ⟨d0, d1, -, -⟩ := C0.out.two
  go_wp2_with fail
  refine (toIntS_any _ X.out hm).mono ?_
  rintro e w1 ⟨v1, rfl, o1, hb1⟩
  obtain ⟨A1, c1, rfl, -⟩ := o1.rd (Nat.le_refl _)
  have D1 := hid (C1.out.step hb1)
  have D2 := hid (C2.out.step hb1)
  have O1 := hid o1.1
  have B1 := hid (B.out.trans (hb1.mono (by omega)))
  have hz1 : W.heap.size ≤ w1.heap.size := hb1.size
  clear hb1 C0 C1 C2 B X d0 d1 o1
  obtain ⟨x0, x1, x2, x3⟩ := D2.out.two
  go_upto_region 4 with (fail)
  obtain ⟨W2, hW2⟩ : ∃ W, w1.setCell ⟨w.heap.size + 1 + 1, 1, none⟩ (.slice A1 zs.length c1) = W := ⟨_, rfl⟩
  rw [hW2]
  have F1 := hid (show Cs W2 (w.heap.size + 1) 27 vz by rw [← hW2]; exact D1.out.far (by simp) _)
  have F2 := hid (show Cs W2 (w.heap.size + 1 + 1) 27 #[.int .i64 n, .slice A1 zs.length c1] by rw [← hW2]; exact D2.out.set 1 _)
  have Q1 := hid (show OwI W2 W.heap.size (.slice A1 zs.length c1) zs by rw [← hW2]; exact own_of_block O1.out fun g hg => heap_setCell_other w1 ⟨w.heap.size + 1 + 1, 1, none⟩ g _ (fun e => by have := (O1.out.lt g hg).1; simp only at e; omega))
  have B3 := hid (show Below w.heap.size w W2 by rw [← hW2]; exact B1.out.setCell (by simp; omega) _)
  clear hW2 D1 D2 O1 B1 x0 x1 x2 x3
  obtain ⟨x0, x1, -, -⟩ := F2.out.two
  obtain ⟨z0, z1, z2, z3⟩ := F1.out.two
  obtain ⟨f1, f2⟩ := F1.out.fillV B3.out (by omega) (.int .i64 n) (.slice A1 zs.length c1)
  replace f2 := hid f2
  have hO := hid ((Q1.out.fillV F1.out (.int .i64 n) (.slice A1 zs.length c1)).more (show w.heap.size ≤ W.heap.size by omega))
  obtain ⟨r0, r1, -, -⟩ := f1.two
  clear Q1 B3 F1 F2 f1
  go_wp2
  refine bodyPost_ret (v := vwV n (.slice A1 zs.length c1)) (by simp [results, Try.results6, go_sem, r0, r1]) rfl ?_
  exact ⟨A1, c1, rfl, hO.out, f2.out⟩

set_option maxHeartbeats 4000000 in
theorem eqView_same {m c c' : Nat} {A A' : Option Addr} {zs : List Int} (n : Int) (w : World) (hx : RdI w w.heap.size A m zs) (hy : RdI w w.heap.size A' m zs) (hm : m < 1099511627776) :
    Calls Try.prog 8 #[vwV n (.slice A m c), vwV n (.slice A' m c')] w fun e w' => e = .returned (.bool true) ∧ Below w.heap.size w w' := by
  obtain ⟨W, hW⟩ : ∃ W, (w.alloc (.cells #[.int .i64 n, .slice A m c] 27)).alloc (.cells #[.int .i64 n, .slice A' m c'] 27) = W := ⟨_, rfl⟩
  have B := hid (show Below w.heap.size w W by rw [← hW]; exact below2 w _ _)
  have C0 := hid (show Cs W w.heap.size 27 #[.int .i64 n, .slice A m c] by rw [← hW]; exact (Cs.new w _ _).alloc _)
  have C1 := hid (show Cs W (w.heap.size + 1) 27 #[.int .i64 n, .slice A' m c'] by rw [← hW]; exact Cs.new' _ _ _ (by simp))
  have X := hid (Reads.below hx B.out)
  have Y := hid (Reads.below hy B.out)
  have hne : (n != n) = false := by simp
  replace hW := hid hW
  clear hx hy
  obtain ⟨d0, d1, -, -⟩ := C0.out.two
  obtain ⟨e0, e1, -, -⟩ := C1.out.two
  go_enter Try.func8, Try.ntmps8
  go_upto_region 1 with (fail)
  rw [hW.out]
  go_wp2_with (go_at_call 14; (refine (eqIntS_any _ X.out Y.out hm hm).mono ?_); rw [sameB_selfV]; rintro e w2 ⟨rfl, hq⟩; have hq' := hid (hq.below W.heap.size); clear hq)
  go_ret
  exact ⟨rfl, B.out.trans (hq'.out.mono B.out.size)⟩

end Go.Proofs.Ytohbbpmjoaklhaa
