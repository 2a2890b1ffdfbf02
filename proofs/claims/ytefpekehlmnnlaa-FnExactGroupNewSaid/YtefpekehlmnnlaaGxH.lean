/-
  The walks of the exact laws of GroupNew: the law returns true and writes nothing that was there. No condition.
-/
import Derived.Test.YtefpekehlmnnlaaGxD
import Derived.Test.YtefpekehlmnnlaaGmT
import Derived.Deep.CutBlock
import Derived.Deep.RegionLaw
import Derived.Deep.RegionHeld3
namespace Go.Proofs.Ytefpekehlmnnlaa
open Go.RowKit
set_option linter.unusedVariables false
set_option linter.unusedSimpArgs false

theorem GroupNew_as_impl {id z : Int} {b : Bool} (hz : (if grB id then id else 0) = z) (hb : grB id = b) (w : World) : Calls Try.prog 11 #[.int .i64 id] w fun e w' => ∃ (A1 : Option Addr) (c1 : Nat) (A2 : Option Addr) (c2 : Nat), e = .returned (.tuple #[gpV z 0 (.slice A1 0 c1) (.slice A2 0 c2), .bool b]) ∧ OwG w' w.heap.size A1 0 c1 A2 0 c2 [] [] ∧ Below w.heap.size w w' := by
  subst hz; subst hb; exact GroupNew_impl id w

theorem GroupNew_as_spec {id z : Int} {b : Bool} (hz : (if grB id then id else 0) = z) (hb : grB id = b) (w : World) : Calls Try.prog 10 #[.int .i64 id] w fun e w' => ∃ (A1 : Option Addr) (c1 : Nat) (A2 : Option Addr) (c2 : Nat), e = .returned (.tuple #[gpV z 0 (.slice A1 0 c1) (.slice A2 0 c2), .bool b]) ∧ OwG w' w.heap.size A1 0 c1 A2 0 c2 [] [] ∧ Below w.heap.size w w' := by
  subst hz; subst hb; exact GroupNew_spec id w

set_option maxRecDepth 100000 in
set_option maxHeartbeats 16000000 in
theorem exGroupNew_at {z : Int} {b : Bool} (id : Int) (w u0 : World) (hz : (if grB id then id else 0) = z) (hb : grB id = b) (h0 : Below w.heap.size w u0) (z_0 : w.heap.size ≤ u0.heap.size) :
    Calls Try.prog 3 #[.int .i64 id] u0 fun e w' => e = .returned (.bool true) ∧ Below w.heap.size w w' := by
  have B_0 := hid h0
  replace hz := hid hz
  have hbb := hid hb
  clear hb
  clear h0
  go_enter Try.func3, Try.ntmps3
  go_wp2_with fail
  refine (GroupNew_as_spec hz.out hbb.out _).mono ?_
  rintro e u1 ⟨Aw, cw, Bw, dw, rfl, ow, hb⟩
  have hb_1 := hid hb
  have B_1 := hid (B_0.out.trans (hb_1.out.mono (by omega)))
  have z_1 : u0.heap.size ≤ u1.heap.size := hb_1.out.size
  clear  B_0
  clear hb_1
  clear hb
  have Lw_1 := hid (Lg.of ow)
  clear ow
  go_upto_region 2 with (fail)
  obtain ⟨u2, hu⟩ : ∃ W, (u1.alloc (.cells #[.int .i64 z, .int .i64 0, .slice Aw 0 cw, .slice Bw 0 dw] 24)) = W := ⟨_, rfl⟩
  rw [hu]
  have hb : Below u1.heap.size u1 u2 := by rw [← hu]; exact below1 _ _
  have hcw : Cs u2 (u1.heap.size) 24 #[.int .i64 z, .int .i64 0, .slice Aw 0 cw, .slice Bw 0 dw] := by rw [← hu]; exact Cs.new _ _ _
  clear hu
  have hb_2 := hid hb
  have Lw_2 := hid (Lw_1.out.step hb_2.out)
  have B_2 := hid (B_1.out.trans (hb_2.out.mono (by omega)))
  have z_2 : u1.heap.size ≤ u2.heap.size := hb_2.out.size
  clear Lw_1 B_1
  clear hb_2
  clear hb
  have Kw_2 := hid hcw
  have yw_2 : u1.heap.size < u2.heap.size := hcw.lt
  clear hcw
  go_wp2_with fail
  refine (GroupNew_as_impl hz.out hbb.out _).mono ?_
  rintro e u3 ⟨Ag, cg, Bg, dg, rfl, og, hb⟩
  have hb_3 := hid hb
  have Kw_3 := hid (Kw_2.out.step hb_3.out)
  have Lw_3 := hid (Lw_2.out.step hb_3.out)
  have B_3 := hid (B_2.out.trans (hb_3.out.mono (by omega)))
  have z_3 : u2.heap.size ≤ u3.heap.size := hb_3.out.size
  clear Kw_2 Lw_2 B_2
  clear hb_3
  clear hb
  have Lg_3 := hid (Lg.of og)
  clear og
  go_upto_region 3 with (fail)
  obtain ⟨u4, hu⟩ : ∃ W, (u3.alloc (.cells #[.int .i64 z, .int .i64 0, .slice Ag 0 cg, .slice Bg 0 dg] 24)) = W := ⟨_, rfl⟩
  rw [hu]
  have hb : Below u3.heap.size u3 u4 := by rw [← hu]; exact below1 _ _
  have hcg : Cs u4 (u3.heap.size) 24 #[.int .i64 z, .int .i64 0, .slice Ag 0 cg, .slice Bg 0 dg] := by rw [← hu]; exact Cs.new _ _ _
  clear hu
  have hb_4 := hid hb
  have Kw_4 := hid (Kw_3.out.step hb_4.out)
  have Lw_4 := hid (Lw_3.out.step hb_4.out)
  have Lg_4 := hid (Lg_3.out.step hb_4.out)
  have B_4 := hid (B_3.out.trans (hb_4.out.mono (by omega)))
  have z_4 : u3.heap.size ≤ u4.heap.size := hb_4.out.size
  clear Kw_3 Lw_3 Lg_3 B_3
  clear hb_4
  clear hb
  have Kg_4 := hid hcg
  have yg_4 : u3.heap.size < u4.heap.size := hcg.lt
  clear hcg
  obtain ⟨qg0, qg1, qg2, qg3⟩ := Kg_4.out.four
  obtain ⟨qw0, qw1, qw2, qw3⟩ := Kw_4.out.four
  go_wp2_with fail
  refine (eqGroup_same z 0 _ Lg_4.out.r1 Lg_4.out.r2 Lw_4.out.r1 Lw_4.out.r2 (by omega) (by omega)).mono ?_
  rintro e u5 ⟨rfl, hb⟩
  clear qg0 qg1 qg2 qg3 qw0 qw1 qw2 qw3
  have hb_5 := hid hb
  have Kw_5 := hid (Kw_4.out.step hb_5.out)
  have Kg_5 := hid (Kg_4.out.step hb_5.out)
  have Lw_5 := hid (Lw_4.out.step hb_5.out)
  have Lg_5 := hid (Lg_4.out.step hb_5.out)
  have B_5 := hid (B_4.out.trans (hb_5.out.mono (by omega)))
  have z_5 : u4.heap.size ≤ u5.heap.size := hb_5.out.size
  clear Kw_4 Kg_4 Lw_4 Lg_4 B_4
  clear hb_5
  clear hb
  have hne : (b != b) = false := by cases b <;> rfl
  obtain ⟨qg0, qg1, qg2, qg3⟩ := Kg_5.out.four
  go_wp2_with fail
  refine (markGroup_any z 0 1 _ Lg_5.out (by omega) (by omega) (by omega) (by omega)).mono ?_
  rintro e u6 ⟨rfl, hL, hK⟩
  clear qg0 qg1 qg2 qg3
  have hk_6 := hid hK
  have z_6 : u5.heap.size ≤ u6.heap.size := hk_6.out.size
  have Kw_6 := hid (Kw_5.out.kp hk_6.out (fun (h : u2.heap.size ≤ u1.heap.size ∧ u1.heap.size < u3.heap.size) => by omega))
  have Kg_6 := hid (Kg_5.out.kp hk_6.out (fun (h : u2.heap.size ≤ u3.heap.size ∧ u3.heap.size < u3.heap.size) => by omega))
  have Lw_6 := hid (Lw_5.out.kp hk_6.out (fun b h1 h2 (h3 : u2.heap.size ≤ b ∧ b < u3.heap.size) => by omega))
  have B_6 := hid (B_5.out.trans (hk_6.out.base (by omega) (fun b (h : u2.heap.size ≤ b ∧ b < u3.heap.size) => by omega)))
  clear Kw_5 Kg_5 Lw_5 Lg_5 B_5
  clear hk_6
  have Lg_6 := hid hL
  clear hL hK
  obtain ⟨qg0, qg1, qg2, qg3⟩ := Kg_6.out.four
  go_wp2_with fail
  refine (heldGroup_any z 0 1 _ Lg_6.out.r1 Lg_6.out.r2 (by omega) (by omega) (by omega) (by omega)).mono ?_
  rintro e u7 ⟨rfl, hb⟩
  clear qg0 qg1 qg2 qg3
  have hb_7 := hid hb
  have Kw_7 := hid (Kw_6.out.step hb_7.out)
  have Kg_7 := hid (Kg_6.out.step hb_7.out)
  have Lw_7 := hid (Lw_6.out.step hb_7.out)
  have Lg_7 := hid (Lg_6.out.step hb_7.out)
  have B_7 := hid (B_6.out.trans (hb_7.out.mono (by omega)))
  have z_7 : u6.heap.size ≤ u7.heap.size := hb_7.out.size
  clear Kw_6 Kg_6 Lw_6 Lg_6 B_6
  clear hb_7
  clear hb
  go_wp2_with fail
  refine (GroupNew_as_impl hz.out hbb.out _).mono ?_
  rintro e u8 ⟨Ah, ch, Bh, dh, rfl, oh, hb⟩
  have hb_8 := hid hb
  have Kw_8 := hid (Kw_7.out.step hb_8.out)
  have Kg_8 := hid (Kg_7.out.step hb_8.out)
  have Lw_8 := hid (Lw_7.out.step hb_8.out)
  have Lg_8 := hid (Lg_7.out.step hb_8.out)
  have B_8 := hid (B_7.out.trans (hb_8.out.mono (by omega)))
  have z_8 : u7.heap.size ≤ u8.heap.size := hb_8.out.size
  clear Kw_7 Kg_7 Lw_7 Lg_7 B_7
  clear hb_8
  clear hb
  have Lh_8 := hid (Lg.of oh)
  clear oh
  go_upto_region 14 with (fail)
  obtain ⟨u9, hu⟩ : ∃ W, (u8.alloc (.cells #[.int .i64 z, .int .i64 0, .slice Ah 0 ch, .slice Bh 0 dh] 24)) = W := ⟨_, rfl⟩
  rw [hu]
  have hb : Below u8.heap.size u8 u9 := by rw [← hu]; exact below1 _ _
  have hch : Cs u9 (u8.heap.size) 24 #[.int .i64 z, .int .i64 0, .slice Ah 0 ch, .slice Bh 0 dh] := by rw [← hu]; exact Cs.new _ _ _
  clear hu
  have hb_9 := hid hb
  have Kw_9 := hid (Kw_8.out.step hb_9.out)
  have Kg_9 := hid (Kg_8.out.step hb_9.out)
  have Lw_9 := hid (Lw_8.out.step hb_9.out)
  have Lg_9 := hid (Lg_8.out.step hb_9.out)
  have Lh_9 := hid (Lh_8.out.step hb_9.out)
  have B_9 := hid (B_8.out.trans (hb_9.out.mono (by omega)))
  have z_9 : u8.heap.size ≤ u9.heap.size := hb_9.out.size
  clear Kw_8 Kg_8 Lw_8 Lg_8 Lh_8 B_8
  clear hb_9
  clear hb
  have Kh_9 := hid hch
  have yh_9 : u8.heap.size < u9.heap.size := hch.lt
  clear hch
  obtain ⟨qh0, qh1, qh2, qh3⟩ := Kh_9.out.four
  obtain ⟨qw0, qw1, qw2, qw3⟩ := Kw_9.out.four
  go_wp2_with fail
  refine (eqGroup_same z 0 _ Lh_9.out.r1 Lh_9.out.r2 Lw_9.out.r1 Lw_9.out.r2 (by omega) (by omega)).mono ?_
  rintro e u10 ⟨rfl, hb⟩
  clear qh0 qh1 qh2 qh3 qw0 qw1 qw2 qw3
  have hb_10 := hid hb
  have Kw_10 := hid (Kw_9.out.step hb_10.out)
  have Kg_10 := hid (Kg_9.out.step hb_10.out)
  have Kh_10 := hid (Kh_9.out.step hb_10.out)
  have Lw_10 := hid (Lw_9.out.step hb_10.out)
  have Lg_10 := hid (Lg_9.out.step hb_10.out)
  have Lh_10 := hid (Lh_9.out.step hb_10.out)
  have B_10 := hid (B_9.out.trans (hb_10.out.mono (by omega)))
  have z_10 : u9.heap.size ≤ u10.heap.size := hb_10.out.size
  clear Kw_9 Kg_9 Kh_9 Lw_9 Lg_9 Lh_9 B_9
  clear hb_10
  clear hb
  obtain ⟨qg0, qg1, qg2, qg3⟩ := Kg_10.out.four
  go_wp2_with fail
  refine (heldGroup_any z 0 1 _ Lg_10.out.r1 Lg_10.out.r2 (by omega) (by omega) (by omega) (by omega)).mono ?_
  rintro e u11 ⟨rfl, hb⟩
  clear qg0 qg1 qg2 qg3
  have hb_11 := hid hb
  have Kw_11 := hid (Kw_10.out.step hb_11.out)
  have Kg_11 := hid (Kg_10.out.step hb_11.out)
  have Kh_11 := hid (Kh_10.out.step hb_11.out)
  have Lw_11 := hid (Lw_10.out.step hb_11.out)
  have Lg_11 := hid (Lg_10.out.step hb_11.out)
  have Lh_11 := hid (Lh_10.out.step hb_11.out)
  have B_11 := hid (B_10.out.trans (hb_11.out.mono (by omega)))
  have z_11 : u10.heap.size ≤ u11.heap.size := hb_11.out.size
  clear Kw_10 Kg_10 Kh_10 Lw_10 Lg_10 Lh_10 B_10
  clear hb_11
  clear hb
  go_wp2
  go_ret
  exact ⟨rfl, B_11.out⟩

theorem exGroupNew (id : Int) (w : World) : Calls Try.prog 3 #[.int .i64 id] w fun e w' => e = .returned (.bool true) ∧ Below w.heap.size w w' :=
  exGroupNew_at id w w rfl rfl (Below.refl _ _) (Nat.le_refl _)
end Go.Proofs.Ytefpekehlmnnlaa
