/-
  Contracts of the model's functions over views, first part: l23Members, ViewValid, l23View. No condition but lengths below 2^40.
-/
import Derived.Test.YtppdfgifnmfioaaDoorVwC
namespace Go.Proofs.YtppdfgifnmfioaaDoor
open Go.RowKit
set_option linter.unusedVariables false
set_option linter.unusedSimpArgs false

theorem l6In_asV {n lo hi : Int} {r : Bool} (h : inB n lo hi = r) (w : World) : Calls Tryd.prog 48 #[.int .i64 n, .int .i64 lo, .int .i64 hi] w fun e w' => e = .returned (.bool r) ∧ w = w' := by
  subst h; exact l6In_any n lo hi w

set_option maxHeartbeats 4000000 in
theorem l23Members_any {B n c : Nat} {A : Option Addr} {zs : List Int} {R : Bool} (w : World) (hr : RdI w B A n zs) (hn : n < 1099511627776) (hR : mvB zs = R) :
    Calls Tryd.prog 45 #[.slice A n c] w fun e w' => e = .returned (.bool R) ∧ Qt w w' := by
  have hl' := hid hr.len
  have hr' := hid hr
  have hR' := hid hR
  clear hr hR
  go_enter Tryd.func45, Tryd.ntmps45
  go_wp2
  go_loopw [3] (fun i wr => ∃ k : Nat, k ≤ n ∧ i = .int .i64 k ∧ Qt w wr ∧ Hid (∀ j, j < k → mvAt zs j = true)) (fun i _ => n - (intOf i).toNat)
  case atStart => exact ⟨0, Nat.zero_le _, rfl, Qt.refl _, hid (fun j h => by omega)⟩
  case round =>
    obtain ⟨k, hk, rfl, hq, hall⟩ := hrel
    by_cases hlt : k < n
    · obtain ⟨ad, z, rfl, hz, hc⟩ := RdI.at' (hq.reads hr'.out) hlt
      have hbad : mvAt zs k = false → Hid (R = false) := fun h => hid (by rw [← hR'.out]; exact mvB_of_bad (i := k) (by rw [hl'.out]; exact hlt) h)
      rcases Nat.eq_zero_or_pos k with h0 | h0
      · have hd : decide (0 < k) = false := by simp; omega
        have H0 := hid h0
        clear h0
        by_cases hg : inB z 0 7 = true
        · have hg' := hid hg
          have hok : Hid (mvAt zs k = true) := hid (by rw [mvAt, hz.out, hg, H0.out]; rfl)
          clear hg hbad
          go_wp2
          go_quiet ((go_at_call 48; exact same_call (l6In_asV hg'.out _)))
          go_wp2
          go_roundw
          case rel => exact ⟨k + 1, by omega, by go_num, hq.drewN _, hid (fun j hj => by
              by_cases e : j = k
              · subst e; exact hok.out
              · exact hall.out j (by omega))⟩
          case measure => simp [intOf]; omega
        · have hg' : Hid (inB z 0 7 = false) := hid (by simpa using hg)
          have hb := hbad (by rw [mvAt, hz.out, hg'.out]; rfl)
          clear hg hbad
          go_wp2
          go_quiet ((go_at_call 48; exact same_call (l6In_asV hg'.out _)))
          go_wp2
          go_ret
          exact ⟨ret_bool hb.out.symm, hq.drewN _⟩
      · have hd : decide (0 < k) = true := by simp; omega
        obtain ⟨ad2, y, e2, hy, hc2⟩ := RdI.at' (hq.reads hr'.out) (k := k - 1) (by omega)
        obtain rfl : ad = ad2 := by injection e2
        clear e2
        have hw : IntKind.i64.wrap ((k : Int) - 1) = (k : Int) - 1 := IntWalk.i64_in _ (by omega)
        have hp : (1 : Int) ≤ (k : Int) := by omega
        have hp' : (0 : Int) ≤ (k : Int) - 1 := by omega
        have ht : ((k : Int) - 1).toNat = k - 1 := by omega
        have hlt' : (k : Int) - 1 < (n : Int) := by omega
        have H0 := hid h0
        by_cases hg : inB z 0 7 = true
        · have hg' := hid hg
          clear hg
          by_cases hzy : z ≤ y
          · have hb := hbad (mvAt_false H0.out hz.out hy.out hzy)
            clear hbad
            go_wp2
            go_quiet ((go_at_call 48; exact same_call (l6In_asV hg'.out _)))
            clear hw ht
            go_wp2
            go_ret
            exact ⟨ret_bool hb.out.symm, hq.drewN _⟩
          · have hok : Hid (mvAt zs k = true) := hid (mvAt_true hg'.out hz.out hy.out (by omega))
            clear hbad
            go_wp2
            go_quiet ((go_at_call 48; exact same_call (l6In_asV hg'.out _)))
            clear hw ht
            go_wp2
            go_roundw
            case rel => exact ⟨k + 1, by omega, by go_num, hq.drewN _, hid (fun j hj => by
                by_cases e : j = k
                · subst e; exact hok.out
                · exact hall.out j (by omega))⟩
            case measure => simp [intOf]; omega
        · have hg' : Hid (inB z 0 7 = false) := hid (by simpa using hg)
          have hb := hbad (by rw [mvAt, hz.out, hg'.out]; rfl)
          clear hg hbad
          go_wp2
          go_quiet ((go_at_call 48; exact same_call (l6In_asV hg'.out _)))
          clear hw ht
          go_wp2
          go_ret
          exact ⟨ret_bool hb.out.symm, hq.drewN _⟩
    · have hb : Hid (R = true) := hid (by rw [← hR'.out]; exact mvB_of_all (fun i hi => hall.out i (by rw [hl'.out] at hi; omega)))
      go_wp2
      go_ret
      exact ⟨ret_bool hb.out.symm, hq⟩

set_option maxHeartbeats 2000000 in
theorem ViewValid_spec {m c : Nat} {A : Option Addr} {zs : List Int} {r : Bool} (n : Int) (w : World) (hr : RdI w w.heap.size A m zs) (hm : m < 1099511627776) (hR : vwB n zs = r) :
    Calls Tryd.prog 33 #[vwV n (.slice A m c)] w fun e w' => e = .returned (.bool r) ∧ Below w.heap.size w w' := by
  obtain ⟨W, hW⟩ : ∃ W, w.alloc (.cells #[.int .i64 n, .slice A m c] 25) = W := ⟨_, rfl⟩
  have hB := hid (show Below w.heap.size w W by rw [← hW]; exact below1 w _)
  have hC := hid (show Cs W w.heap.size 25 #[.int .i64 n, .slice A m c] by rw [← hW]; exact Cs.new w _ _)
  have hr' := hid (show RdI W w.heap.size A m zs by rw [← hW]; exact Reads.alloc hr (Nat.le_refl _) _)
  have hl := hid hr.len
  have hR' := hid hR
  replace hW := hid hW
  clear hr hR
  obtain ⟨d0, d1, -, -⟩ := hC.out.two
  cases h9 : inB n 0 99 with
  | false =>
    have hv : Hid (r = false) := hid (by rw [← hR'.out, vwB, h9]; rfl)
    have h9' := hid h9
    clear h9
    go_enter Tryd.func33, Tryd.ntmps33
    go_upto_region 1 with (fail)
    rw [hW.out]
    go_wp2_with (go_at_call 48; (with_reducible refine (l6In_asV h9'.out _).mono ?_); rintro e w2 ⟨rfl, rfl⟩)
    go_ret
    exact ⟨by rw [hv.out]; rfl, hB.out⟩
  | true =>
    have h9' := hid h9
    by_cases h0 : 0 < m
    · have hv : Hid (mvB zs = r) := hid (by rw [← hR'.out, vwB, h9, hl.out, decide_eq_true h0]; rfl)
      clear h9
      go_enter Tryd.func33, Tryd.ntmps33
      go_upto_region 1 with (fail)
      rw [hW.out]
      go_wp2_with (first | (go_at_call 48; (with_reducible refine (l6In_asV h9'.out _).mono ?_); rintro e w2 ⟨rfl, rfl⟩) | (go_at_call 45; (with_reducible refine (l23Members_any _ hr'.out hm hv.out).mono ?_); rintro e w2 ⟨rfl, hq⟩))
      go_ret
      exact ⟨by simp, hB.out.trans ((hq.below w2.heap.size).mono (by rw [hq.size]; exact hB.out.size))⟩
    · have hv : Hid (r = false) := hid (by rw [← hR'.out, vwB, hl.out, decide_eq_false h0]; simp)
      clear h9
      go_enter Tryd.func33, Tryd.ntmps33
      go_upto_region 1 with (fail)
      rw [hW.out]
      go_wp2_with (go_at_call 48; (with_reducible refine (l6In_asV h9'.out _).mono ?_); rintro e w2 ⟨rfl, rfl⟩)
      go_ret
      exact ⟨by rw [hv.out]; rfl, hB.out⟩

/-- a view that a call makes -/
def VPost (r : Vr) (w : World) (e : Ending) (w' : World) : Prop :=
  ∃ A c, e = .returned (.tuple #[vwV r.1.1 (.slice A r.1.2.length c), .bool r.2]) ∧ OwI w' w.heap.size (.slice A r.1.2.length c) r.1.2 ∧ Below w.heap.size w w'
/-- a result's box behind its filling -/
theorem Cs.fillV {w W : World} {b : Nat} {a0 a1 : Value} (h : Cs W b 25 #[a0, a1]) (hB : Below w.heap.size w W) (hb : w.heap.size ≤ b) (u0 u1 : Value) :
    Cs ((W.setCell ⟨b, 0, none⟩ u0).setCell ⟨b, 1, none⟩ u1) b 25 #[u0, u1] ∧ Below w.heap.size w ((W.setCell ⟨b, 0, none⟩ u0).setCell ⟨b, 1, none⟩ u1) :=
  ⟨(h.set 0 u0).set 1 u1, (hB.setCell (p := ⟨b, 0, none⟩) hb u0).setCell (p := ⟨b, 1, none⟩) hb u1⟩

theorem OwI.fillV {W : World} {B b : Nat} {v : Value} {zs : List Int} {a0 a1 : Value} (h : OwI W B v zs) (hc : Cs W b 25 #[a0, a1]) (u0 u1 : Value) : OwI ((W.setCell ⟨b, 0, none⟩ u0).setCell ⟨b, 1, none⟩ u1) B v zs := by
  have hne := cs_type hc h (by decide)
  exact own_of_block h fun g hg => (Below.heap_setCell _ ⟨b, 1, none⟩ u1 g (fun e => hne (by rw [hg, e]))).trans (Below.heap_setCell W ⟨b, 0, none⟩ u0 g (fun e => hne (by rw [hg, e])))

set_option maxHeartbeats 4000000 in
theorem l23View_any {m c : Nat} {A : Option Addr} {zs : List Int} {n n1 : Int} (w : World) (hr : RdI w w.heap.size A m zs) (hm : m < 2097152) (hw : IntKind.i64.wrap (n + 1) = n1) :
    Calls Tryd.prog 41 #[.int .i64 n, .slice A m c] w (VPost (vwR n1 zs) w) := by
  obtain ⟨W, hW⟩ : ∃ W, w.alloc (.cells vz 25) = W := ⟨_, rfl⟩
  have hB := hid (show Below w.heap.size w W by rw [← hW]; exact below1 w _)
  have hZ := hid (show Cs W w.heap.size 25 vz by rw [← hW]; exact Cs.new w _ _)
  have hr0 := hid (show RdI W w.heap.size A m zs by rw [← hW]; exact Reads.alloc hr (Nat.le_refl _) _)
  have hl := hid hr.len
  replace hW := hid hW
  have h5 := hid (OwI.lit0 W rfl)
  have hr5 := hid (show RdI (W.alloc (.cells #[] 3)) w.heap.size A m zs from Reads.alloc hr0.out (by have := hB.out.size; omega) _)
  have hz5 : W.heap.size ≤ (W.alloc (.cells #[] 3)).heap.size := by simp
  have hBW := hB.out.size
  clear hr
  have main : ∀ (r : Bool), vwB n1 zs = r → Calls Tryd.prog 41 #[.int .i64 n, .slice A m c] w (VPost (vwR n1 zs) w) := by
    intro r hR
    have hR' := hid hR
    have hres : Hid (vwR n1 zs = if r then ((n1, zs), true) else vr0) := hid (by rw [vwR, hR])
    clear hR
    go_enter Tryd.func41, Tryd.ntmps41
    go_upto_region 1 with (fail)
    rw [hW.out]
    go_wp2_with (at_builtin; refine wpList_appH2 rfl (.tmp 9) (.tmp 10) rfl (B := W.heap.size) (v := .slice (some ⟨W.heap.size, 0, none⟩) 0 0) (zs := []) rfl rfl h5.out hr5.out hz5 (by simp; omega) ?_; intro v' w' hv hg hk; rw [List.nil_append] at hv; obtain ⟨A', c', rfl, hrd⟩ := hv.form; rw [hl.out] at hv hrd; rw [hl.out])
    have hb1 : Below W.heap.size W w' := (below1 W (.cells #[] 3)).grown hg hz5 (fun k h => by injection h with h; simp only at h; omega)
    obtain ⟨W1, hW1⟩ : ∃ W1, w'.alloc (.cells #[.int .i64 n1, .slice A' m c'] 25) = W1 := ⟨_, rfl⟩
    have hB1 := hid (show Below w.heap.size w W1 by rw [← hW1]; exact (hB.out.trans (hb1.mono hBW)).alloc (Nat.le_trans hBW hb1.size) _)
    have hC1 := hid (show Cs W1 w'.heap.size 25 #[.int .i64 n1, .slice A' m c'] by rw [← hW1]; exact Cs.new _ _ _)
    have hZ1 := hid (show Cs W1 w.heap.size 25 vz by rw [← hW1]; exact (hZ.out.step hb1).alloc _)
    have hO1 := hid (show OwI W1 W.heap.size (.slice A' m c') zs by rw [← hW1]; exact hv.alloc_ _)
    have hr1 := hid (show RdI W1 W1.heap.size A' m zs by rw [← hW1]; exact (Reads.alloc hrd (Nat.le_refl _) _).more (by simp))
    replace hW1 := hid hW1
    clear hv hg hk hrd hb1 hB hZ h5 hr5 hr0
    go_upto_region 2 with (fail)
    rw [hW1.out]
    obtain ⟨d0, d1, -, -⟩ := hC1.out.two
    go_wp2_with fail
    refine (ViewValid_spec n1 _ hr1.out (by omega) hR'.out).mono ?_
    rintro e w2 ⟨rfl, hb2⟩
    have hC2 := hid (hC1.out.step hb2)
    have hZ2 := hid (hZ1.out.step hb2)
    have hB2 := hid (hB1.out.trans (hb2.mono hB1.out.size))
    have hO2 := hid ((own_of_block hO1.out fun g hg => hb2.block g (hO1.out.lt g hg).2).more hBW)
    clear hb2 hC1 hZ1 hB1 hO1 hr1 d0 d1
    obtain ⟨d0, d1, -, -⟩ := hC2.out.two
    obtain ⟨z0, z1, z2, z3⟩ := hZ2.out.two
    cases r with
    | false =>
      obtain ⟨f1, f2⟩ := hZ2.out.fillV hB2.out (Nat.le_refl _) (.int .i64 0) (.slice none 0 0)
      replace f2 := hid f2
      obtain ⟨y0, y1, -, -⟩ := f1.two
      clear f1 hC2 hZ2 hB2 hO2
      go_wp2
      refine bodyPost_ret (v := .tuple #[vwV 0 (.slice none 0 0), .bool false]) (by simp [results, Tryd.results41, go_sem, y0, y1]) rfl ?_
      rw [hres.out]
      exact ⟨none, 0, rfl, World.ownsRow_nil _ _ _ _, f2.out⟩
    | true =>
      obtain ⟨f1, f2⟩ := hZ2.out.fillV hB2.out (Nat.le_refl _) (.int .i64 n1) (.slice A' m c')
      replace f2 := hid f2
      have hO3 := hid (hO2.out.fillV hZ2.out (.int .i64 n1) (.slice A' m c'))
      obtain ⟨y0, y1, -, -⟩ := f1.two
      clear f1 hC2 hZ2 hB2 hO2
      go_wp2
      refine bodyPost_ret (v := .tuple #[vwV n1 (.slice A' m c'), .bool true]) (by simp [results, Tryd.results41, go_sem, y0, y1]) rfl ?_
      rw [hres.out]
      exact ⟨A', c', by rw [← hl.out]; rfl, by show OwI _ _ (.slice A' zs.length c') zs; rw [hl.out]; exact hO3.out, f2.out⟩
  exact main _ rfl
end Go.Proofs.YtppdfgifnmfioaaDoor
