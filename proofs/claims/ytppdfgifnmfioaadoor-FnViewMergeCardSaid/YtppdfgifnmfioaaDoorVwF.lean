/-
  Contracts of the model's ViewLeave, ViewSplit, ViewMerge and ViewMajority. No condition but lengths below 2^40.
-/
import Derived.Test.YtppdfgifnmfioaaDoorVwE
namespace Go.Proofs.YtppdfgifnmfioaaDoor
open Go.RowKit
set_option linter.unusedVariables false
set_option linter.unusedSimpArgs false

theorem del_filter {zs : List Int} {x : Int} (h : Mv zs) (hh : hasB zs x = true) : zs.filter (fun z => z != x) = del zs x := (del_eq h.1 (hasB_iff.1 hh)).symm

set_option maxHeartbeats 8000000 in
theorem ViewLeave_spec {m c : Nat} {A : Option Addr} {zs : List Int} (n x : Int) (w : World) (hr : RdI w w.heap.size A m zs) (hm : m < 2097152) :
    Calls Tryd.prog 21 #[vwV n (.slice A m c), .int .i64 x] w (VPost (leaveR n zs x) w) := by
  obtain ⟨W, hW⟩ : ∃ W, ((w.alloc (.cells #[.int .i64 n, .slice A m c] 25)).alloc (.cells vz 25)).alloc (.cells #[] 3) = W := ⟨_, rfl⟩
  obtain ⟨W0, hW0⟩ : ∃ W, ((w.alloc (.cells #[.int .i64 n, .slice A m c] 25)).alloc (.cells vz 25)) = W := ⟨_, rfl⟩
  have hT0 : TwoV w W0 n (.slice A m c) := by rw [← hW0]; exact TwoV.new w _ _
  have hW1 : W0.alloc (.cells #[] 3) = W := by rw [← hW0]; exact hW
  have hT := hid (show TwoV w W n (.slice A m c) by rw [← hW1]; exact hT0.step (below1 _ _))
  obtain ⟨ob, hob⟩ : ∃ b, W0.heap.size = b := ⟨_, rfl⟩
  have hlo : w.heap.size + 2 = ob := by rw [← hob, ← hW0]; simp
  have hO := hid (show OwI W ob (.slice (some ⟨ob, 0, none⟩) 0 0) [] by rw [← hW1]; exact OwI.lit0 W0 hob)
  have hr' := hid (show RdI W w.heap.size A m zs from Reads.below hr hT.out.b)
  have hl := hid hr.len
  have hm40 : m < 1099511627776 := by omega
  have hsz : w.heap.size + 1 + 1 = ob := by omega
  replace hW := hid hW
  have hobW : ob ≤ W.heap.size := by rw [← hW1, ← hob]; simp
  clear hr hT0 hW0 hW1 hob
  obtain ⟨d0, d1, -, -⟩ := hT.out.a.two
  have hrW := hid (hr'.out.more hT.out.b.size)
  cases hv : vwB n zs with
  | false =>
    have hno := hid (leaveR_no (m := x) (.inl hv))
    have hv' := hid hv
    clear hv
    go_enter Tryd.func21, Tryd.ntmps21
    go_upto_region 2 with (fail)
    rw [hW.out]
    go_wp2_with fail
    refine (ViewValid_specT hT.out hrW.out hm40 hv'.out).mono ?_
    rintro e w1 ⟨rfl, hT1, -⟩
    obtain ⟨z0, z1, z2, z3⟩ := hT1.z.two
    obtain ⟨f1, f2⟩ := hT1.fill (.int .i64 0) (.slice none 0 0)
    replace f2 := hid f2
    obtain ⟨y0, y1, -, -⟩ := f1.two
    clear d0 d1 f1 hT1
    go_wp2
    refine bodyPost_ret (v := .tuple #[vwV 0 (.slice none 0 0), .bool false]) (by simp [results, Tryd.results21, go_sem, y0, y1]) rfl ?_
    rw [hno.out]
    exact ⟨none, 0, rfl, World.ownsRow_nil _ _ _ _, f2.out⟩
  | true =>
    have hv' := hid hv
    obtain ⟨⟨n0, n9⟩, hpos, hmv⟩ := vwB_true.1 hv
    cases hh : hasB zs x with
    | false =>
      have hno := hid (leaveR_no (n := n) (m := x) (.inr hh))
      have hh' := hid hh
      clear hv hh hpos
      go_enter Tryd.func21, Tryd.ntmps21
      go_upto_region 2 with (fail)
      rw [hW.out]
      go_wp2_with fail
      refine (ViewValid_specT hT.out hrW.out hm40 hv'.out).mono ?_
      rintro e w1 ⟨rfl, hT1, hr1⟩
      obtain ⟨z0, z1, z2, z3⟩ := hT1.z.two
      obtain ⟨f1, f2⟩ := hT1.fill (.int .i64 0) (.slice none 0 0)
      replace f2 := hid f2
      replace hr1 := hid hr1
      obtain ⟨y0, y1, -, -⟩ := f1.two
      clear d0 d1 f1
      obtain ⟨d0, d1, -, -⟩ := hT1.a.two
      clear hT1
      go_wp2_with (go_at_call 40; (with_reducible refine (l1Has_asV hh'.out _ hr1.out hm40).mono ?_); rintro e w2 ⟨rfl, rfl⟩)
      refine bodyPost_ret (v := .tuple #[vwV 0 (.slice none 0 0), .bool false]) (by simp [results, Tryd.results21, go_sem, y0, y1]) rfl ?_
      rw [hno.out]
      exact ⟨none, 0, rfl, World.ownsRow_nil _ _ _ _, f2.out⟩
    | true =>
      have hyes := hid (leaveR_yes hv hh)
      have hh' := hid hh
      have hfl := hid (del_filter hmv hh)
      have h8 := hmv.len
      have hw1 : IntKind.i64.wrap (n + 1) = n + 1 := IntWalk.i64_in _ (by omega)
      obtain ⟨⟨⟨on, oz⟩, ok⟩, hrv⟩ : ∃ rv, vwR (n + 1) (del zs x) = rv := ⟨_, rfl⟩
      replace hrv := hid hrv
      clear hv hh hmv hpos
      go_enter Tryd.func21, Tryd.ntmps21
      go_upto_region 2 with (fail)
      rw [hW.out]
      go_wp2_with fail
      refine (ViewValid_spec n _ hrW.out hm40 hv'.out).mono ?_
      rintro e w1 ⟨rfl, hb1⟩
      have hT1 := hid (hT.out.step hb1)
      have hr1 := hid ((Reads.below hrW.out hb1).more hb1.size)
      have hO1 := hid (own_of_block hO.out fun g hg => hb1.block g (hO.out.lt g hg).2)
      have hob1 := Nat.le_trans hobW hb1.size
      have hrA := hid ((Reads.below hr'.out ((hb1).mono hT.out.b.size)).more (show w.heap.size ≤ ob by omega))
      clear d0 d1 hr' hrW hT hO hb1
      obtain ⟨d0, d1, -, -⟩ := hT1.out.a.two
      go_wp2_with (go_at_call 40; (with_reducible refine (l1Has_asV hh'.out _ hr1.out hm40).mono ?_); rintro e w2 ⟨rfl, rfl⟩)
      go_loopw [6, 7] (fun o i wr => ∃ (k : Nat), k ≤ m ∧ i = .int .i64 k ∧ Hid (OwI wr ob o ((zs.take k).filter fun z => z != x)) ∧ Hid (Below ob w1 wr)) (fun _ i _ => m - (intOf i).toNat)
      case atStart => exact ⟨0, Nat.zero_le _, rfl, hid (by simpa using hO1.out), hid (Below.refl _ _)⟩
      case round =>
        obtain ⟨k, hk, rfl, hO, hb⟩ := hrel
        clear d0 d1 hO1
        have hTr := hid (hT1.out.stepB hb.out (by omega))
        have hobr := Nat.le_trans hob1 hb.out.size
        have hrr := hid (Reads.below hrA.out hb.out)
        obtain ⟨d0, d1, -, -⟩ := hTr.out.a.two
        by_cases hlt : k < m
        · obtain ⟨ad, z, rfl, hz, hc⟩ := RdI.at' hrr.out hlt
          have i0 : (0 : Int) ≤ (k : Int) := by omega
          have i1 : (k : Int) < (m : Int) := by omega
          by_cases hzx : z = x
          · have hmiss := hid (take_miss (p := fun z => z != x) (k := k) (by rw [hl.out]; exact hlt) hz.out (by simp [hzx]))
            have hne : (z != x) = false := by simp [hzx]
            clear hzx
            go_wp2
            go_roundw
            case rel => exact ⟨k + 1, by omega, by go_num, hid (by rw [hmiss.out]; exact hO.out), hb⟩
            case measure => simp [intOf]; omega
          · have hhit := hid (take_hit (p := fun z => z != x) (k := k) (by rw [hl.out]; exact hlt) hz.out (by simp [hzx]))
            have hne : (z != x) = true := by simp [hzx]
            have hlen : Hid (((zs.take k).filter fun z => z != x).length < 1099511627776) := hid (by have := take_filter_len (fun z => z != x) zs k; omega)
            clear hzx
            go_wp2_with (at_builtin; refine wpList_app1 rfl (.tmp 34) (.tmp 40) rfl ob z _ _ rfl rfl hO.out hobr hlen.out ?_; intro v' w3 hown' hbel')
            have h1 := hid (show OwI w3 ob v' ((zs.take (k + 1)).filter fun z => z != x) by rw [hhit.out]; exact hown')
            have h2 := hid (hb.out.trans hbel')
            clear hown' hbel'
            go_wp2
            go_roundw
            case rel => exact ⟨k + 1, by omega, by go_num, h1, h2⟩
            case measure => simp [intOf]; omega
        · have hnk : ¬ ((k : Int) < (m : Int)) := by omega
          rw [List.take_of_length_le (by rw [hl.out]; omega), hfl.out] at hO
          obtain ⟨A', c', e, hro⟩ := hO.out.form
          subst e
          have hro := hid hro
          have hdl : Hid ((del zs x).length < 2097152) := hid (by have := del_len (hasB_iff.1 hh'.out); omega)
          go_wp2_with fail
          refine (l23View_as hrv.out wr hro.out hdl.out hw1).mono ?_
          rintro e w4 ⟨A4, c4, rfl, hO4, hb4⟩
          have hT4 := hid (hTr.out.step hb4)
          obtain ⟨z0, z1, z2, z3⟩ := hT4.out.z.two
          obtain ⟨f1, f2⟩ := hT4.out.fill (.int .i64 on) (.slice A4 oz.length c4)
          replace f2 := hid f2
          have hO9 := hid ((hO4.fillV hT4.out.z (.int .i64 on) (.slice A4 oz.length c4)).more (show w.heap.size ≤ wr.heap.size by omega))
          obtain ⟨y0, y1, -, -⟩ := f1.two
          clear f1 hT4 hO4 hb4 d0 d1
          go_wp2
          refine bodyPost_ret (v := .tuple #[vwV on (.slice A4 oz.length c4), .bool ok]) (by simp [results, Tryd.results21, go_sem, y0, y1]) rfl ?_
          rw [hyes.out, hrv.out]
          exact ⟨A4, c4, rfl, hO9.out, f2.out⟩
end Go.Proofs.YtppdfgifnmfioaaDoor
