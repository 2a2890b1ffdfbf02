/-
  Contracts of the program's CreditsOrdered and of what it calls. No condition but lengths below 2^40.
-/
import Derived.Test.YtfcoobebebdniaaCeE
import Derived.Test.YtfcoobebebdniaaCdC
import Derived.Test.YtfcoobebebdniaaCdD
import Derived.Test.YtfcoobebebdniaaBw
import Derived.Deep.QuietTactic
import Derived.BigRegion
namespace Go.Proofs.Ytfcoobebebdniaa
open Go.RowKit
set_option linter.unusedVariables false
set_option linter.unusedSimpArgs false

set_option maxHeartbeats 1000000 in
theorem MaxI_any {B n c : Nat} {A : Option Addr} {zs : List Int} (w : World) (hr : RdI w B A n zs) (hn : n < 1099511627776) (h0 : 0 < n) (ha : zs.Pairwise (· < ·)) :
    Calls Try.prog 71 #[.slice A n c] w fun e w' => e = .returned (.int .i64 (zs.getD (n - 1) 0)) ∧ w = w' := by
  have hlen := hid hr.len
  have h' := hid hr
  have ha' := hid ha
  clear ha
  obtain ⟨ad, y, rfl, hy, hcy⟩ := RdI.at' hr h0
  have hy' := hid hy.out
  have hcy0 : w.cell? ad = some (.int .i64 y) := by simpa [Addr.add] using hcy
  have n0 : ¬ ((n : Int) < 1) := by omega
  have n1 : (0 : Int) < (n : Int) := by omega
  clear hr hy hcy
  go_enter Try.func71, Try.ntmps71
  go_wp2
  go_loop [3, 4] (fun m i => ∃ k : Nat, 1 ≤ k ∧ k ≤ n ∧ i = .int .i64 k ∧ m = .int .i64 (zs.getD (k - 1) 0)) (fun _ i => n - (intOf i).toNat)
  case atStart => exact ⟨1, Nat.le_refl _, h0, rfl, by rw [← hy'.out]⟩
  case round =>
    obtain ⟨k, hk1, hk, rfl, rfl⟩ := hrel
    by_cases hlt : k < n
    · obtain ⟨ad2, z, e9, hz, hcz⟩ := RdI.at' h'.out hlt
      injection e9 with e9
      subst e9
      have i0 : (0 : Int) ≤ (k : Int) := by omega
      have i1 : (k : Int) < (n : Int) := by omega
      obtain ⟨u, hu⟩ : ∃ u, zs.getD (k - 1) 0 = u := ⟨_, rfl⟩
      have hlt2 : u < z := by
        rw [← hu, ← hz.out]
        have h1 := getDq (zs := zs) (k := k - 1) (by rw [hlen.out]; omega) rfl
        have h2 := getDq (zs := zs) (k := k) (by rw [hlen.out]; omega) rfl
        obtain ⟨p1, e1⟩ := List.getElem?_eq_some_iff.1 h1
        obtain ⟨p2, e2⟩ := List.getElem?_eq_some_iff.1 h2
        rw [← e1, ← e2]
        exact List.pairwise_iff_getElem.1 ha'.out _ _ p1 p2 (by omega)
      have hmx : max u z = z := by omega
      have hz' := hid hz.out
      rw [hu]
      clear hu hz
      go_wp2
      go_round
      case rel => exact ⟨k + 1, by omega, by omega, by go_num, by rw [Nat.add_sub_cancel, hz'.out]⟩
      case measure => simp [intOf]; omega
    · have e : k = n := by omega
      have hkn : ¬ ((k : Int) < (n : Int)) := by omega
      go_wp2
      go_ret
      exact ⟨rfl, rfl⟩

theorem MaxI_as {B n c : Nat} {A : Option Addr} {zs : List Int} {y : Int} (w : World) (hr : RdI w B A n zs) (hn : n < 1099511627776) (h0 : 0 < n) (ha : zs.Pairwise (· < ·)) (hy : zs.getD (n - 1) 0 = y) :
    Calls Try.prog 71 #[.slice A n c] w fun e w' => e = .returned (.int .i64 y) ∧ w = w' := by
  subst hy; exact MaxI_any w hr hn h0 ha

theorem oh_nw {zs : List Int} {x : Int} (h : ¬ 0 ≤ x) : ohB (zs, x) = true := by unfold ohB; simp [h]

theorem oh_ne {zs : List Int} {x : Int} (h : zs.length = 0) : ohB (zs, x) = true := by unfold ohB; simp [h]

theorem oh_mx {fr zs : List Int} {x y : Int} (hv : hoB fr (zs, x) = true) (h0 : 0 ≤ x) (hl : 0 < zs.length) (hy : zs.getD (zs.length - 1) 0 = y) : ohB (zs, x) = decide (y < x) := by
  have h1 := (hoB_true.1 hv).2.2 h0
  have h2 : y ∈ zs := by rw [← hy]; exact last_mem hl
  have h3 : y ≠ x := fun e => h1.2 (by rw [← e]; exact h2)
  unfold ohB
  simp only [hy, h0, hl, decide_true, Bool.true_and]
  rw [Bool.eq_iff_iff]
  simp; omega

set_option maxHeartbeats 4000000 in
theorem Hold_ordered_any {Ai : Option Addr} {m ci : Nat} {fr zs : List Int} {x : Int} (w : World) (hv : hoB fr (zs, x) = true) (hs : RdI w w.heap.size Ai m zs) (hm : m < 1099511627776) :
    Calls Try.prog 47 #[hoV (.slice Ai m ci) x] w fun e w' => e = .returned (.bool (ohB (zs, x))) ∧ Below w.heap.size w w' := by
  obtain ⟨W, hW⟩ : ∃ W, w.alloc (.cells #[.slice Ai m ci, .int .i64 x] 33) = W := ⟨_, rfl⟩
  have hB := hid (show Below w.heap.size w W by rw [← hW]; exact below1 w _)
  have hC : Cs W w.heap.size 33 #[.slice Ai m ci, .int .i64 x] := by rw [← hW]; exact Cs.new w _ _
  have hS := hid (show RdI W w.heap.size Ai m zs by rw [← hW]; exact Reads.alloc hs (Nat.le_refl _) _)
  have hSx : Hid (∀ y : BW W, RdI y.wd w.heap.size Ai m zs) := hid (fun y => Reads.below hS.out (y.below.mono hB.out.size))
  have hl := hid hs.len
  have C0 : ∀ y : BW W, y.wd.cell? ⟨w.heap.size, 0, none⟩ = some (.slice Ai m ci) := fun y => y.cell (hC.cell 0)
  have C1 : ∀ y : BW W, y.wd.cell? ⟨w.heap.size, 1, none⟩ = some (.int .i64 x) := fun y => y.cell (hC.cell 1)
  have ha := hid (setB_true.1 (hoB_true.1 hv).1).1
  have hv' := hid hv
  replace hW := hid hW
  clear hs hC hv
  by_cases h0 : 0 ≤ x
  · have hw := hid (show decide (0 ≤ x) = true by simp [h0])
    by_cases hm0 : m = 0
    · have R := hid (oh_ne (zs := zs) (x := x) (by rw [hl.out]; exact hm0))
      have hz : ((m : Int) == 0) = true := by simp [hm0]
      have hz2 : (m : Int) = 0 := by omega
      clear hm0 h0
      go_enter Try.func47, Try.ntmps47
      go_upto_region 1 with (fail)
      rw [hW.out]
      refine wp_region_below (by kernel_rfl) (by kernel_rfl) ?_
      repeat (go_big_quiet_step ((go_at_call 57; exact BW.call _ (waits_as hw.out _))))
      refine wpQuiet_nil ?_
      intro w1 hb1
      have hb := hid (hB.out.trans (hb1.mono hB.out.size))
      clear hb1 C0 C1
      go_wp2
      go_ret
      exact ⟨ret_bool R.out.symm, hb.out⟩
    · obtain ⟨y, hy⟩ : ∃ y, zs.getD (m - 1) 0 = y := ⟨_, rfl⟩
      have R := hid (show ohB (zs, x) = decide (y < x) from oh_mx hv'.out h0 (by rw [hl.out]; omega) (by rw [hl.out]; exact hy))
      have hz : ((m : Int) == 0) = false := by rw [beq_eq_false_iff_ne]; omega
      have hz2 : ¬ ((m : Int) = 0) := by omega
      have hmp : 0 < m := by omega
      have hy' := hid hy
      clear hm0 h0 hy
      go_enter Try.func47, Try.ntmps47
      go_upto_region 1 with (fail)
      rw [hW.out]
      refine wp_region_below (by kernel_rfl) (by kernel_rfl) ?_
      repeat (go_big_quiet_step ((first | (go_at_call 57; exact BW.call _ (waits_as hw.out _)) | (go_at_call 71; exact BW.same _ (MaxI_as _ (hSx.out _) hm hmp ha.out hy'.out)))))
      refine wpQuiet_nil ?_
      intro w1 hb1
      have hb := hid (hB.out.trans (hb1.mono hB.out.size))
      clear hb1 C0 C1
      go_wp2
      go_ret
      exact ⟨ret_bool R.out.symm, hb.out⟩
  · have R := hid (oh_nw (zs := zs) h0)
    have hw := hid (show decide (0 ≤ x) = false by simp; omega)
    clear h0
    go_enter Try.func47, Try.ntmps47
    go_upto_region 1 with (fail)
    rw [hW.out]
    refine wp_region_below (by kernel_rfl) (by kernel_rfl) ?_
    repeat (go_big_quiet_step ((go_at_call 57; exact BW.call _ (waits_as hw.out _))))
    refine wpQuiet_nil ?_
    intro w1 hb1
    have hb := hid (hB.out.trans (hb1.mono hB.out.size))
    clear hb1 C0 C1
    go_wp2
    go_ret
    exact ⟨ret_bool R.out.symm, hb.out⟩

set_option maxHeartbeats 400000 in
theorem badOrder_any {Ai : Option Addr} {m ci : Nat} {fr zs : List Int} {x : Int} (w : World) (hv : hoB fr (zs, x) = true) (hs : RdI w w.heap.size Ai m zs) (hm : m < 1099511627776) :
    Calls Try.prog 46 #[hoV (.slice Ai m ci) x] w fun e w' => e = .returned (.bool (!ohB (zs, x))) ∧ Below w.heap.size w w' := by
  obtain ⟨W, hW⟩ : ∃ W, w.alloc (.cells #[.slice Ai m ci, .int .i64 x] 33) = W := ⟨_, rfl⟩
  have hB := hid (show Below w.heap.size w W by rw [← hW]; exact below1 w _)
  have hD := hid (show Cs W w.heap.size 33 #[.slice Ai m ci, .int .i64 x] by rw [← hW]; exact Cs.new w _ _)
  have hS := hid (show RdI W W.heap.size Ai m zs by rw [← hW]; exact (Reads.alloc hs (Nat.le_refl _) _).more (by simp))
  obtain ⟨d0, d1, -, -⟩ := hD.out.two
  have hv' := hid hv
  replace hW := hid hW
  clear hs hv
  go_enter Try.func46, Try.ntmps46
  go_upto_region 1 with (fail)
  rw [hW.out]
  go_wp2_with fail
  refine (Hold_ordered_any _ hv'.out hS.out hm).mono ?_
  rintro e w1 ⟨rfl, hb⟩
  have hb' := hid (hB.out.trans (hb.mono hB.out.size))
  clear hb
  go_wp2
  go_ret
  exact ⟨rfl, hb'.out⟩

set_option maxHeartbeats 2000000 in
theorem IndexOrder_any {A1 A2 : Option Addr} {n1 c2 n2 : Nat} {c : Cr} (w : World) (hr : RdC w A1 n1 A2 n2 c) (hv : ∀ k, k < c.hs.length → hoB c.fr (c.h k) = true) :
    Calls Try.prog 69 #[.slice A2 n2 c2, .func (.func 46) #[] #[]] w
      fun e w' => (∃ k : Int, e = .returned (.int .i64 k) ∧ decide (k ≥ 0) = !(c.hs.all ohB)) ∧ Below w.heap.size w w' := by
  have hr' := hid hr
  have hv' := hid hv
  have b2 := hr.b2
  have hl2 := hid hr.len.2
  clear hr hv
  go_enter Try.func69, Try.ntmps69
  go_wp2
  go_loopw [8] (fun i wr => ∃ k : Nat, k ≤ n2 ∧ i = .int .i64 k ∧ Hid (∀ j, j < k → ohB (c.h j) = true) ∧ Hid (Below w.heap.size w wr)) (fun i _ => n2 - (intOf i).toNat)
  case atStart => exact ⟨0, by omega, rfl, hid (fun j hj => by omega), hid (Below.refl _ _)⟩
  case round =>
    obtain ⟨k, hk, rfl, hall, hB⟩ := hrel
    by_cases hlt : k < n2
    · have hRw := hid (hr'.out.step hB.out)
      have i0 : (0 : Int) ≤ (k : Int) := by omega
      have i1 : (k : Int) < (n2 : Int) := by omega
      have hkl : k < c.hs.length := by rw [hl2.out]; exact hlt
      obtain ⟨bb, off, Ai, m, ci, rfl, hb, hm, e0, e1, hri, hmc, hci, hml⟩ := hRw.out.at_ hlt
      have hvk := hv'.out k hkl
      obtain ⟨x, hx⟩ : ∃ x, (c.h k).2 = x := ⟨_, rfl⟩
      obtain ⟨zs, hzs⟩ : ∃ zs, (c.h k).1 = zs := ⟨_, rfl⟩
      have hhk : Hid (c.h k = (zs, x)) := hid (by rw [← hx, ← hzs])
      rw [hhk.out] at hvk
      rw [hx] at e1
      rw [hzs] at hm hri
      replace hvk := hid hvk
      clear hx hzs hRw
      cases hb : ohB (zs, x) with
      | false =>
        have R := hid (show (!(c.hs.all ohB)) = true from by
          rw [Bool.not_eq_true', List.all_eq_false]
          exact ⟨_, List.mem_of_getElem? (at_h hkl), by rw [hhk.out, hb]; simp⟩)
        have hb' := hid hb
        clear hb
        go_wp2_with fail
        refine (badOrder_any _ hvk.out hri.out hml).mono ?_
        rw [hb'.out]
        rintro e w2 ⟨rfl, hb2⟩
        have B2 := hid (hB.out.trans (hb2.mono hB.out.size))
        clear hb2
        go_wp2
        go_ret
        exact ⟨⟨k, rfl, by rw [R.out]; simp⟩, B2.out⟩
      | true =>
        have hb' := hid hb
        clear hb
        go_wp2_with fail
        refine (badOrder_any _ hvk.out hri.out hml).mono ?_
        rw [hb'.out]
        rintro e w2 ⟨rfl, hb2⟩
        have B2 := hid (hB.out.trans (hb2.mono hB.out.size))
        clear hb2
        go_wp2
        go_roundw
        case rel => exact ⟨k + 1, by omega, by go_num, hid (fun j hj => by
              by_cases e : j = k
              · subst e
                rw [hhk.out]; exact hb'.out
              · exact hall.out j (by omega)), B2⟩
        case measure => simp [intOf]; omega
    · have hkn : ¬ ((k : Int) < (n2 : Int)) := by omega
      have R := hid (show (!(c.hs.all ohB)) = false from by
        rw [Bool.not_eq_false', List.all_eq_true]
        intro x hx
        obtain ⟨j, hj, rfl⟩ := List.getElem_of_mem hx
        have e : c.h j = c.hs[j] := h_at (List.getElem?_eq_getElem hj)
        rw [← e]
        exact hall.out j (by rw [hl2.out] at hj; omega))
      go_wp2
      go_ret
      exact ⟨⟨-1, rfl, by rw [R.out]; simp⟩, hB.out⟩

set_option maxHeartbeats 400000 in
theorem ContainsOrder_any {A1 A2 : Option Addr} {n1 c2 n2 : Nat} {c : Cr} (w : World) (hr : RdC w A1 n1 A2 n2 c) (hv : ∀ k, k < c.hs.length → hoB c.fr (c.h k) = true) :
    Calls Try.prog 43 #[.slice A2 n2 c2, .func (.func 46) #[] #[]] w
      fun e w' => e = .returned (.bool (!(c.hs.all ohB))) ∧ Below w.heap.size w w' := by
  have hr' := hid hr
  have hv' := hid hv
  clear hr hv
  go_enter Try.func43, Try.ntmps43
  go_wp2_with fail
  refine (IndexOrder_any _ hr'.out hv'.out).mono ?_
  rintro e w1 ⟨⟨k, rfl, hk⟩, hb⟩
  have R := hid hk
  have hb := hid hb
  clear hk
  go_wp2
  go_ret
  exact ⟨by rw [← R.out]; rfl, hb.out⟩

theorem crB_ho {c : Cr} (h : crB c = true) {k : Nat} (hk : k < c.hs.length) : hoB c.fr (c.h k) = true := by
  unfold crB at h
  rw [Bool.and_eq_true, List.all_eq_true] at h
  exact h.2 _ (List.mem_of_getElem? (at_h hk))

set_option maxHeartbeats 2000000 in
theorem CreditsOrdered_impl {A1 A2 : Option Addr} {n1 n2 c1 c2 : Nat} {c : Cr} (w : World) (hr : RdC w A1 n1 A2 n2 c) :
    Calls Try.prog 21 #[crV (.slice A1 n1 c1) (.slice A2 n2 c2)] w fun e w' => e = .returned (.bool (orB c)) ∧ Below w.heap.size w w' := by
  obtain ⟨W, hW⟩ : ∃ W, w.alloc (.cells #[.slice A1 n1 c1, .slice A2 n2 c2] 28) = W := ⟨_, rfl⟩
  have hB := hid (show Below w.heap.size w W by rw [← hW]; exact below1 w _)
  have hC := hid (show Cs W w.heap.size 28 #[.slice A1 n1 c1, .slice A2 n2 c2] by rw [← hW]; exact Cs.new w _ _)
  have hR := hid (show RdC W A1 n1 A2 n2 c by rw [← hW]; exact hr.alloc _)
  replace hW := hid hW
  clear hr
  obtain ⟨d0, d1, -, -⟩ := hC.out.two
  cases hv : crB c with
  | false =>
    have hno : Hid (orB c = false) := hid (by unfold orB; rw [hv]; rfl)
    have hv' := hid hv
    clear hv
    go_enter Try.func21, Try.ntmps21
    go_upto_region 1 with (fail)
    rw [hW.out]
    go_wp2_with fail
    refine (CreditsValid_ias hv'.out _ hR.out).mono ?_
    rintro e w1 ⟨rfl, hb⟩
    have hb' := hid (hB.out.trans (hb.mono hB.out.size))
    clear hb
    go_wp2
    go_ret
    exact ⟨ret_bool hno.out.symm, hb'.out⟩
  | true =>
    have hyes : Hid (orB c = c.hs.all ohB) := hid (by unfold orB; rw [hv]; rfl)
    have hv' := hid hv
    clear hv d0 d1
    obtain ⟨d0, d1, -, -⟩ := hC.out.two
    go_enter Try.func21, Try.ntmps21
    go_upto_region 1 with (fail)
    rw [hW.out]
    go_wp2_with fail
    refine (CreditsValid_ias hv'.out _ hR.out).mono ?_
    rintro e w1 ⟨rfl, hb⟩
    have hb' := hid (hB.out.trans (hb.mono hB.out.size))
    have hC1 := hid (hC.out.step hb)
    have hR1 := hid (hR.out.step hb)
    clear hb d0 d1
    obtain ⟨d0, d1, -, -⟩ := hC1.out.two
    go_wp2_with fail
    refine (ContainsOrder_any _ hR1.out (fun k hk => crB_ho hv'.out hk)).mono ?_
    rintro e w2 ⟨rfl, hb2⟩
    have hb2' := hid (hb'.out.trans (hb2.mono hb'.out.size))
    clear hb2
    go_wp2
    go_ret
    exact ⟨ret_bool (by rw [hyes.out]), hb2'.out⟩
end Go.Proofs.Ytfcoobebebdniaa
