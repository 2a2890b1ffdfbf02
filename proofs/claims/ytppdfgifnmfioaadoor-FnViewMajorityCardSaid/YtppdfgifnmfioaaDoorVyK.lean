/-
  The walk of the law ViewMajority: it returns true, and nothing that was there is written. No condition.
-/
import Derived.Test.YtppdfgifnmfioaaDoorVyA
import Derived.Test.YtppdfgifnmfioaaDoorVyP
import Derived.Test.YtppdfgifnmfioaaDoorVwH
import Derived.Test.YtppdfgifnmfioaaDoorVdC
import Derived.Deep.CutBlock
import Derived.Deep.RegionLaw
import Derived.Deep.RegionHeld3
import Derived.Deep.DeepCutAuto
namespace Go.Proofs.YtppdfgifnmfioaaDoor
open Go.RowKit
set_option linter.unusedVariables false
set_option linter.unusedSimpArgs false

set_option maxRecDepth 100000 in
set_option maxHeartbeats 16000000 in
theorem lawViewMajority {a : Option Addr} {len cap : Nat} {bs : List Int} {a2 : Option Addr} {len2 cap2 : Nat} {ys : List Int} (w : World) (h : RowIs .u8 w a len cap bs) (g : RowIs .u8 w a2 len2 cap2 ys) {e0 : Addr} (sA : Sn w 2 e0) :
    Calls Tryd.prog 6 #[.slice a len cap, .slice a2 len2 cap2] w fun e w' => e = .returned (.bool true) ∧ Below w.heap.size w w' := by
  obtain ⟨u0, rfl⟩ : ∃ u, u = w := ⟨w, rfl⟩
  have hl := h.len_leY
  have B_0 := hid (Below.refl u0.heap.size u0)
  have h' := hid h
  have sA := hid sA
  clear h
  by_cases hbig : 1048576 < len
  · go_enter Tryd.func6, Tryd.ntmps6
    go_wp2
    go_ret
    exact ⟨rfl, B_0.out⟩
  · have gl := g.len_leY
    have g' := hid g
    clear g
    by_cases hbig2 : 1048576 < len2
    · go_enter Tryd.func6, Tryd.ntmps6
      go_wp2
      go_ret
      exact ⟨rfl, B_0.out⟩
    · go_enter Tryd.func6, Tryd.ntmps6
      go_wp2_with fail
      refine (DrawViewMajority_any _ h'.out).mono ?_
      rintro e u1 ⟨n, A, c, zs, B, d, so, rfl, o1, o2, hl9, hs10, hb⟩
      have hb_1 := hid hb
      have B_1 := hid (B_0.out.trans (hb_1.out.mono (by omega)))
      have z_1 : u0.heap.size ≤ u1.heap.size := hb_1.out.size
      clear  B_0
      clear hb_1
      clear hb
      have Nv_1 := hid (Lv.ofI o1)
      clear o1
      have Ns_1 := hid (Lv.ofI o2)
      clear o2
      go_upto_region 4 with (fail)
      obtain ⟨u2, hu⟩ : ∃ W, (u1.alloc (.cells #[.int .i64 n, .slice A zs.length c] 25)) = W := ⟨_, rfl⟩
      rw [hu]
      have hb : Below u1.heap.size u1 u2 := by rw [← hu]; exact below1 _ _
      have hcv : Cs u2 (u1.heap.size) 25 #[.int .i64 n, .slice A zs.length c] := by rw [← hu]; exact Cs.new _ _ _
      clear hu
      have hb_2 := hid hb
      have Nv_2 := hid (Nv_1.out.step hb_2.out)
      have Ns_2 := hid (Ns_1.out.step hb_2.out)
      have B_2 := hid (B_1.out.trans (hb_2.out.mono (by omega)))
      have z_2 : u1.heap.size ≤ u2.heap.size := hb_2.out.size
      clear Nv_1 Ns_1 B_1
      clear hb_2
      clear hb
      have Kv_2 := hid hcv
      have yv_2 : u1.heap.size < u2.heap.size := hcv.lt
      clear hcv
      obtain ⟨R, hR⟩ : ∃ R, majR n zs so = R := ⟨_, rfl⟩
      replace hR := hid hR
      obtain ⟨qv0, qv1, -, -⟩ := Kv_2.out.two
      go_wp2_with fail
      refine (ViewMajority_impl n _ Nv_2.out.at_ Ns_2.out.at_ Nv_2.out.capY (by omega) (by omega) (Sn.below sA.out B_2.out) hR.out).mono ?_
      rintro e u3 ⟨rfl, hb⟩
      clear qv0 qv1
      have hb_3 := hid hb
      have Kv_3 := hid (Kv_2.out.step hb_3.out)
      have Nv_3 := hid (Nv_2.out.step hb_3.out)
      have Ns_3 := hid (Ns_2.out.step hb_3.out)
      have B_3 := hid (B_2.out.trans (hb_3.out.mono (by omega)))
      have z_3 : u2.heap.size ≤ u3.heap.size := hb_3.out.size
      clear Kv_2 Nv_2 Ns_2 B_2
      clear hb_3
      clear hb
      obtain ⟨qv0, qv1, -, -⟩ := Kv_3.out.two
      go_wp2_with fail
      refine (ViewMajority_spec n _ Nv_3.out.at_ Ns_3.out.at_ (by omega) (by omega) hR.out).mono ?_
      rintro e u4 ⟨rfl, hb⟩
      clear qv0 qv1
      have hb_4 := hid hb
      have Kv_4 := hid (Kv_3.out.step hb_4.out)
      have Nv_4 := hid (Nv_3.out.step hb_4.out)
      have Ns_4 := hid (Ns_3.out.step hb_4.out)
      have B_4 := hid (B_3.out.trans (hb_4.out.mono (by omega)))
      have z_4 : u3.heap.size ≤ u4.heap.size := hb_4.out.size
      clear Kv_3 Nv_3 Ns_3 B_3
      clear hb_4
      clear hb
      cases R with
      | false =>
        go_wp2
        go_ret
        exact ⟨rfl, B_4.out⟩
      | true =>
        obtain ⟨-, hvv, -, -⟩ := maj_true.1 hR.out
        replace hvv := hid hvv
        have hcv := hid Nv_4.out.capY
        have gw1 : IntKind.i64.wrap ((len2 : Int) * 37) = (len2 : Int) * 37 := IntWalk.i64_in _ (by omega)
        have gw2 : IntKind.i64.wrap ((len2 : Int) * 37 + (so.length : Int)) = (len2 : Int) * 37 + (so.length : Int) := IntWalk.i64_in _ (by omega)
        have o0 := hid (OwI.lit0 u4 rfl)
        have b0 := hid (below1 u4 (.cells #[] 3))
        go_wp2
        go_loopw [9, 10, 11] (fun o h i wr => ∃ (k : Nat) (x : Int) (os : List Int), k ≤ zs.length ∧ i = .int .i64 k ∧ h = .int .i64 x ∧ 0 ≤ x ∧ x ≤ 100000000 ∧ Hid (OwI wr u4.heap.size o os) ∧ Hid (Below u4.heap.size u4 wr) ∧ Hid (os.Sublist (zs.take k))) (fun _ _ i _ => zs.length - (intOf i).toNat)
        case atStart => exact ⟨0, _, [], by omega, rfl, rfl, by omega, by omega, o0, b0, hid (by simp)⟩
        case round =>
          obtain ⟨k, x, os, hk, rfl, rfl, hx0, hx1, hO, hB, hS⟩ := hrel
          clear o0 b0
          obtain ⟨A2, c2, e0, -⟩ := hO.out.form
          subst e0
          obtain ⟨q0, q1, -, -⟩ := (Kv_4.out.step hB.out).two
          have rv := hid (show RdI wr wr.heap.size A zs.length zs from (Reads.below Nv_4.out.at_ hB.out).more hB.out.size)
          have hol := hid (show os.length ≤ 9 by have h1 := hS.out.length_le; rw [List.length_take] at h1; omega)
          by_cases hlt : k < zs.length
          · have hli : (k : Int) < (zs.length : Int) := by omega
            have hw1 : IntKind.i64.wrap (x * 29) = x * 29 := IntWalk.i64_in _ (by omega)
            have hw2 : IntKind.i64.wrap (x * 29 + 7) = x * 29 + 7 := IntWalk.i64_in _ (by omega)
            obtain ⟨y, hy⟩ : ∃ y, (x * 29 + 7) % 1009 = y := ⟨_, rfl⟩
            have hy0 : 0 ≤ y := by omega
            have hy1 : y < 1009 := by omega
            have hw3 : IntKind.i64.wrap y = y := IntWalk.i64_in _ (by omega)
            have hw4 : IntKind.i64.wrap (y % 3) = y % 3 := IntWalk.i64_in _ (by omega)
            by_cases hp : y % 3 > 0
            · obtain ⟨ae, z, rfl, hz5, hc5⟩ := rv.out.at' hlt
              have hk0 : (0 : Int) ≤ (k : Int) := by omega
              have hz5 := hid hz5
              have hO6 := hid (hO.out.alloc_ (.cells #[.int .i64 z] 3))
              have hc6 : Hid (Cs (wr.alloc (.cells #[.int .i64 z] 3)) wr.heap.size 3 #[.int .i64 z]) := hid (Cs.new _ _ _)
              have hB6 := hid (hB.out.alloc hB.out.size (.cells #[.int .i64 z] 3))
              have hz6 : u4.heap.size ≤ (wr.alloc (.cells #[.int .i64 z] 3)).heap.size := hB6.out.size
              go_wp2_with (at_builtin; refine wpList_app1G rfl (.tmp 63) (.tmp 69) rfl (B := u4.heap.size) rfl rfl hc6.out hO6.out hz6 (by have := hol.out; omega) ?_; intro v7 w7 ho7 hg7; obtain ⟨Y, hY⟩ : ∃ Y, os ++ [z] = Y := ⟨_, rfl⟩; rw [hY] at ho7; have hYs := hid (show Y.Sublist (zs.take (k + 1)) by rw [← hY]; exact sub_put hS.out hlt hz5.out); clear hY; obtain ⟨A7, c7, rfl, -⟩ := ho7.form; have hB7 := hid (hB6.out.grown hg7 hz6 (fun b e => (hO6.out.lt b e).1)); have hO7 := hid ho7; clear ho7 hg7)
              go_roundw
              case rel => exact ⟨k + 1, y, _, by omega, by go_num, by first | rfl | rw [hy], hy0, by omega, hO7, hB7, hYs⟩
              case measure => simp [intOf]; omega
            · go_wp2
              go_roundw
              case rel => exact ⟨k + 1, y, _, by omega, by go_num, by first | rfl | rw [hy], hy0, by omega, hO, hB, hid (sub_skip hS.out)⟩
              case measure => simp [intOf]; omega
          · have hli : ¬ (k : Int) < (zs.length : Int) := by omega
            obtain ⟨R2, hR2⟩ : ∃ R2, majR n zs os = R2 := ⟨_, rfl⟩
            replace hR2 := hid hR2
            have ro := hid hO.out.rdY
            have B9 := hid (B_4.out.trans (hB.out.mono (by omega)))
            have hSz := hid (hS.out.trans (List.take_sublist _ _))
            have hol' := hol.out
            have rs := hid (show RdI wr wr.heap.size B so.length so from (Reads.below Ns_4.out.at_ hB.out).more hB.out.size)
            have hsz : u0.heap.size ≤ wr.heap.size := B9.out.size
            go_wp2_with fail
            refine (ViewMajority_impl n _ rv.out ro.out hcv.out (by omega) (by omega) (Sn.below sA.out B9.out) hR2.out).mono ?_
            rintro e w5 ⟨rfl, hb⟩
            have y0 := cell_belowY hb q0
            have y1 := cell_belowY hb q1
            have B5 := hid (B9.out.trans (hb.mono hsz))
            have rs5 := hid (show RdI w5 w5.heap.size B so.length so from (Reads.below rs.out hb).more hb.size)
            have ro5 := hid (show RdI w5 w5.heap.size A2 os.length os from (Reads.below ro.out hb).more hb.size)
            clear hb q0 q1
            cases R2 with
            | false =>
              have hsm : 2 * (os.length : Int) ≤ (zs.length : Int) := by have := maj_small hvv.out hSz.out hR2.out; omega
              have hw2 : IntKind.i64.wrap (2 * (os.length : Int)) = 2 * (os.length : Int) := IntWalk.i64_in _ (by omega)
              go_wp2
              go_ret
              exact ⟨rfl, B5.out⟩
            | true =>
              go_wp2
              go_loop [12] (fun i => ∃ q : Nat, q ≤ so.length ∧ i = .int .i64 q ∧ Hid (∀ j, j < q → hasB os (so.getD j 0) = false)) (fun i => so.length - (intOf i).toNat)
              case atStart => exact ⟨0, Nat.zero_le _, rfl, hid (fun j h => by omega)⟩
              case round =>
                obtain ⟨q, hq, rfl, hno⟩ := hrel
                by_cases hlq : q < so.length
                · obtain ⟨ae, z, rfl, hz, hc0⟩ := rs5.out.at' hlq
                  have hz := hid hz
                  obtain ⟨r, hr⟩ : ∃ r, hasB os z = r := ⟨_, rfl⟩
                  replace hr := hid hr
                  have k1 : (q : Int) < (so.length : Int) := by omega
                  have k0 : (0 : Int) ≤ (q : Int) := by omega
                  go_wp2_with fail
                  refine (hasInt_asV hr.out _ ro5.out (by omega)).mono ?_
                  rintro e wz ⟨rfl, rfl⟩
                  cases r with
                  | false =>
                    go_wp2
                    go_round
                    case rel => exact ⟨q + 1, by omega, by go_num, hid (fun j hj => by
                        by_cases e : j = q
                        · subst e; rw [hz.out]; exact hr.out
                        · exact hno.out j (by omega))⟩
                    case measure => simp [intOf]; omega
                  | true =>
                    go_wp2
                    go_ret
                    exact ⟨rfl, B5.out⟩
                · exact (maj_meet hR.out hR2.out (fun j hj => hno.out j (by omega))).elim
end Go.Proofs.YtppdfgifnmfioaaDoor
