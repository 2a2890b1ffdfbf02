/-
  The walk of the law ViewAlone: it returns true, and nothing that was there is written. No condition.
-/
import Derived.Test.YtppdfgifnmfioaaDoorVyA
import Derived.Test.YtppdfgifnmfioaaDoorVyP
import Derived.Test.YtppdfgifnmfioaaDoorVwH
import Derived.Deep.CutBlock
import Derived.Deep.RegionLaw
import Derived.Deep.RegionHeld3
import Derived.Deep.DeepCutAuto
namespace Go.Proofs.YtppdfgifnmfioaaDoor
open Go.RowKit
set_option linter.unusedVariables false
set_option linter.unusedSimpArgs false

set_option maxRecDepth 100000 in
set_option maxHeartbeats 16000000 in
theorem lawViewAlone {a : Option Addr} {len cap : Nat} {bs : List Int} (w : World) (h : RowIs .u8 w a len cap bs) {e0 : Addr} (sB : Sn w 1 e0) {e1 : Addr} (sA : Sn w 2 e1) :
    Calls Tryd.prog 12 #[.slice a len cap] w fun e w' => e = .returned (.bool true) ∧ Below w.heap.size w w' := by
  obtain ⟨u0, rfl⟩ : ∃ u, u = w := ⟨w, rfl⟩
  have hl := h.len_leY
  have B_0 := hid (Below.refl u0.heap.size u0)
  have h' := hid h
  have sB := hid sB
  have sA := hid sA
  clear h
  by_cases hbig : 1048576 < len
  · go_enter Tryd.func12, Tryd.ntmps12
    go_wp2
    go_ret
    exact ⟨rfl, B_0.out⟩
  · go_enter Tryd.func12, Tryd.ntmps12
    go_wp2_with fail
    refine (DrawViewValid_any _ h'.out).mono ?_
    rintro e u1 ⟨n, A, c, zs, rfl, o1, hl9, hb⟩
    have hb_1 := hid hb
    have B_1 := hid (B_0.out.trans (hb_1.out.mono (by omega)))
    have z_1 : u0.heap.size ≤ u1.heap.size := hb_1.out.size
    clear  B_0
    clear hb_1
    clear hb
    have Nv_1 := hid (Lv.ofI o1)
    clear o1
    go_upto_region 4 with (fail)
    obtain ⟨u2, hu⟩ : ∃ W, (u1.alloc (.cells #[.int .i64 n, .slice A zs.length c] 25)) = W := ⟨_, rfl⟩
    rw [hu]
    have hb : Below u1.heap.size u1 u2 := by rw [← hu]; exact below1 _ _
    have hcv : Cs u2 (u1.heap.size) 25 #[.int .i64 n, .slice A zs.length c] := by rw [← hu]; exact Cs.new _ _ _
    clear hu
    have hb_2 := hid hb
    have Nv_2 := hid (Nv_1.out.step hb_2.out)
    have B_2 := hid (B_1.out.trans (hb_2.out.mono (by omega)))
    have z_2 : u1.heap.size ≤ u2.heap.size := hb_2.out.size
    clear Nv_1 B_1
    clear hb_2
    clear hb
    have Kv_2 := hid hcv
    have yv_2 : u1.heap.size < u2.heap.size := hcv.lt
    clear hcv
    obtain ⟨R, hR⟩ : ∃ R, vwB n zs = R := ⟨_, rfl⟩
    replace hR := hid hR
    obtain ⟨qv0, qv1, -, -⟩ := Kv_2.out.two
    go_wp2_with fail
    refine (ViewValid_impl n _ Nv_2.out.at_ (by omega) hR.out).mono ?_
    rintro e u3 ⟨rfl, hb⟩
    clear qv0 qv1
    have hb_3 := hid hb
    have Kv_3 := hid (Kv_2.out.step hb_3.out)
    have Nv_3 := hid (Nv_2.out.step hb_3.out)
    have B_3 := hid (B_2.out.trans (hb_3.out.mono (by omega)))
    have z_3 : u2.heap.size ≤ u3.heap.size := hb_3.out.size
    clear Kv_2 Nv_2 B_2
    clear hb_3
    clear hb
    obtain ⟨qv0, qv1, -, -⟩ := Kv_3.out.two
    go_wp2_with fail
    refine (ViewValid_spec n _ Nv_3.out.at_ (by omega) hR.out).mono ?_
    rintro e u4 ⟨rfl, hb⟩
    clear qv0 qv1
    have hb_4 := hid hb
    have Kv_4 := hid (Kv_3.out.step hb_4.out)
    have Nv_4 := hid (Nv_3.out.step hb_4.out)
    have B_4 := hid (B_3.out.trans (hb_4.out.mono (by omega)))
    have z_4 : u3.heap.size ≤ u4.heap.size := hb_4.out.size
    clear Kv_3 Nv_3 B_3
    clear hb_4
    clear hb
    cases R with
    | false =>
      go_wp2
      go_ret
      exact ⟨rfl, B_4.out⟩
    | true =>
      obtain ⟨hnn, hp0, hMv⟩ := vwB_true.1 hR.out
      clear hnn hMv
      by_cases h1 : 1 < zs.length
      · obtain ⟨k, hk⟩ : ∃ k : Nat, zs.length / 2 = k := ⟨_, rfl⟩
        have hki : (zs.length : Int) / 2 = (k : Int) := by omega
        have hkn : k ≤ zs.length := by omega
        have hcp := Nv_4.out.capY
        have hkc : (k : Int) ≤ (c : Int) := by omega
        have hk0 : (0 : Int) ≤ (k : Int) := by omega
        have hkw : IntKind.i64.wrap (k : Int) = (k : Int) := IntWalk.i64_in _ (by omega)
        have hm := hid (half_maj (n := n) (zs := zs) (k := k) (by omega))
        have i1 : (zs.length : Int) > 1 := by omega
        clear hk hcp
        have hd := hid (Below.refl u4.heap.size u4).drew
        have Kv_d := hid (Kv_4.out.step hd.out)
        have Nv_d := hid (Nv_4.out.step hd.out)
        have B_d := hid (B_4.out.trans (hd.out.mono (by omega)))
        have z_d : u4.heap.size ≤ u4.drew.heap.size := hd.out.size
        clear hd
        obtain ⟨qv0, qv1, -, -⟩ := Kv_4.out.two
        go_wp2_with fail
        go_region_law (go_simp; (first | (go_at_call 24; (with_reducible refine (ViewMajority_impl n _ Nv_d.out.at_ (RdI.takeV Nv_d.out.at_ hkn) Nv_d.out.capY (by omega) (by omega) (Sn.below sA.out B_d.out) hm.out).mono ?_); rintro e xe ⟨rfl, hb⟩; have Kv_e := hid (Kv_d.out.step hb); have Nv_e := hid (Nv_d.out.step hb); have B_e := hid (B_d.out.trans (hb.mono (by omega))); have z_e := hb.size; obtain ⟨ve0, ve1, -, -⟩ := Kv_e.out.two; clear hb)))
        all_goals
          go_wp2
          go_ret
          exact ⟨rfl, B_e.out⟩
      · have i1 : ¬ (zs.length : Int) > 1 := by omega
        have h11 : zs.length = 1 := by omega
        obtain ⟨ad, z, rfl, hz, hc0⟩ := (Nv_4.out.at_).at' (k := 0) (by omega)
        have hLv := hid (alone_leave hR.out h11 hz.out)
        replace h11 := hid h11
        have i2 : (0 : Int) < (zs.length : Int) := by omega
        have hc1 : u4.cell? ad = some (.int .i64 z) := hc0
        have hc2 : u4.drew.cell? ad = some (.int .i64 z) := hc0
        clear h1
        have hd := hid (Below.refl u4.heap.size u4).drew
        have ha := hid (((Below.refl u4.heap.size u4).alloc (Nat.le_refl _) (.cells #[.int .i64 0, .slice none 0 0] 25)).drew)
        have Kv_d := hid (Kv_4.out.step hd.out)
        have Kv_a := hid (Kv_4.out.step ha.out)
        have Nv_d := hid (Nv_4.out.step hd.out)
        have Nv_a := hid (Nv_4.out.step ha.out)
        have B_d := hid (B_4.out.trans (hd.out.mono (by omega)))
        have B_a := hid (B_4.out.trans (ha.out.mono (by omega)))
        have hcA : (u4.alloc (.cells #[.int .i64 0, .slice none 0 0] 25)).cell? ad = some (.int .i64 z) := cell_belowY (below1 u4 _) hc0
        clear hc0
        have Kz_a := hid (show Cs (u4.alloc (.cells #[.int .i64 0, .slice none 0 0] 25)).drew u4.heap.size 25 vz from (Cs.new u4 _ _).step (Below.refl _ _).drew)
        obtain ⟨qv0, qv1, -, -⟩ := Kv_4.out.two
        obtain ⟨a0, a1, -, -⟩ := Kv_a.out.two
        go_wp2_with fail
        go_region_law (go_simp; go_at_call 20; (first | ((with_reducible refine ((ViewLeave_impl n z _ Nv_d.out.at_ Nv_d.out.capY (by omega) (Sn.below sA.out B_d.out) (Sn.below sB.out B_d.out)).mono fun _ _ h => VPost.x' hLv.out h).mono ?_); rintro e xe ⟨Ag, cg, rfl, og, hb⟩; have hbu := hid (show Below u4.heap.size u4 xe from hd.out.trans (hb.mono (by exact Nat.le_refl _)))) | ((with_reducible refine ((ViewLeave_impl n z _ Nv_a.out.at_ Nv_a.out.capY (by omega) (Sn.below sA.out B_a.out) (Sn.below sB.out B_a.out)).mono fun _ _ h => VPost.x' hLv.out h).mono ?_); rintro e xe ⟨Ag, cg, rfl, og, hb⟩; obtain ⟨b0, b1, b2, b3⟩ := (Kz_a.out.step hb).two; have hbu := hid (show Below u4.heap.size u4 xe from ha.out.trans (hb.mono (by simp [World.drew]))))); clear hb)
        all_goals
          refine pick_worldY (S := fun U => Below u4.heap.size u4 U) (by repeat (first | exact hbu.out | refine Below.drew ?_ | refine Below.setCell ?_ (by first | exact Nat.le_refl _ | exact hbu.out.size) _ | refine Below.alloc ?_ hbu.out.size _)) (fun U hU => ?_)
          have hFu := hid (full_maj hR.out)
          have hEm := hid (empty_maj (n := n) (zs := zs))
          obtain ⟨y0, y1, -, -⟩ := (Kv_4.out.step hU).two
          have f1 := hid (((Reads.below Nv_4.out.at_ hU)).more hU.size)
          have B1 := hid (B_4.out.trans (hU.mono (by omega)))
          have hcv := hid Nv_4.out.capY
          clear hbu hU qv0 qv1 a0 a1
          go_wp2_with fail
          refine (ViewMajority_impl n _ f1.out f1.out hcv.out (by omega) (by omega) (Sn.below sA.out B1.out) hFu.out).mono ?_
          rintro e U2 ⟨rfl, hb⟩
          have y2 := cell_belowY hb y0
          have y3 := cell_belowY hb y1
          have f2 := hid ((Reads.below f1.out hb).more hb.size)
          have B2 := hid (B1.out.trans (hb.mono (by have := B1.out.size; omega)))
          clear hb y0 y1
          go_wp2_with fail
          refine (ViewMajority_impl n _ ((Reads.below f2.out (below1 _ _)).more (below1 _ _).size) (RdI.emptyY _ _ _) hcv.out (by omega) (by omega) (Sn.below (Sn.below sA.out B2.out) (below1 _ _)) hEm.out).mono ?_
          rintro e U3 ⟨rfl, hb⟩
          have B3 := hid ((B2.out.alloc B2.out.size _).trans (hb.mono (by have := B2.out.size; simp; omega)))
          clear hb
          go_wp2
          go_ret
          exact ⟨rfl, B3.out⟩
end Go.Proofs.YtppdfgifnmfioaaDoor
