/-
  A group that is live, marked and looked at again: markGroup, heldGroup. No condition but lengths below 2^40.
-/
import Derived.Test.YtefpekehlmnnlaaGxC
import Derived.Test.YtefpekehlmnnlaaGmU
namespace Go.Proofs.Ytefpekehlmnnlaa
open Go.RowKit
set_option linter.unusedVariables false
set_option linter.unusedSimpArgs false

/-- a group of the call's own whose blocks lie from lo on and below hi -/
structure Lg (w : World) (lo hi : Nat) (A1 : Option Addr) (n1 c1 : Nat) (A2 : Option Addr) (n2 c2 : Nat) (P D : List En) : Prop where
  ow : OwG w lo A1 n1 c1 A2 n2 c2 P D
  hb : ∀ b, (Value.slice A1 n1 c1).ownBlock = some b ∨ (Value.slice A2 n2 c2).ownBlock = some b → b < hi
  hi : hi ≤ w.heap.size
section
variable {w w' : World} {S : Nat → Prop} {lo hi n1 c1 n2 c2 : Nat} {A1 A2 : Option Addr} {P D : List En}

theorem Lg.of (h : OwG w lo A1 n1 c1 A2 n2 c2 P D) : Lg w lo w.heap.size A1 n1 c1 A2 n2 c2 P D :=
  ⟨h, fun b hb => by rcases hb with hb | hb; exact (h.op.lt b hb).2; exact (h.od.lt b hb).2, Nat.le_refl _⟩

theorem Lg.step (h : Lg w lo hi A1 n1 c1 A2 n2 c2 P D) (hb : Below w.heap.size w w') : Lg w' lo hi A1 n1 c1 A2 n2 c2 P D := ⟨h.ow.below hb, h.hb, Nat.le_trans h.hi hb.size⟩

theorem Lg.kp (h : Lg w lo hi A1 n1 c1 A2 n2 c2 P D) (hk : Kp S w w') (hS : ∀ b, lo ≤ b → b < hi → ¬ S b) : Lg w' lo hi A1 n1 c1 A2 n2 c2 P D :=
  ⟨⟨hk.own h.ow.op (fun k hk' => hS k (h.ow.op.lt k hk').1 (h.hb k (.inl hk'))), hk.own h.ow.od (fun k hk' => hS k (h.ow.od.lt k hk').1 (h.hb k (.inr hk'))), h.ow.l1, h.ow.l2, h.ow.ne⟩, h.hb, Nat.le_trans h.hi hk.size⟩

theorem Lg.r1 (h : Lg w lo hi A1 n1 c1 A2 n2 c2 P D) : RdE w w.heap.size A1 n1 P := h.ow.op.rd h.ow.l1

theorem Lg.r2 (h : Lg w lo hi A1 n1 c1 A2 n2 c2 P D) : RdE w w.heap.size A2 n2 D := h.ow.od.rd h.ow.l2
end

theorem Lv.kp {S : Nat → Prop} {w w' : World} {lo hi : Nat} {v : Value} {zs : List Int} (h : Lv w lo hi v zs) (hk : Kp S w w') (hS : ∀ b, lo ≤ b → b < hi → ¬ S b) : Lv w' lo hi v zs :=
  ⟨⟨own_of_block h.1.1 fun g hg => hk.block g (h.1.1.lt g hg).2 (hS g (h.1.1.lt g hg).1 (h.1.2 g hg)), h.1.2⟩, Nat.le_trans h.2 hk.size⟩

theorem Kp.of_quiet {S : Nat → Prop} {w w' : World} (h : Qt w w') : Kp S w w' := Kp.of_below (h.below _)

set_option maxHeartbeats 2000000 in
theorem markGroup_any {lo hi n1 c1 n2 c2 : Nat} {A1 A2 : Option Addr} {P D : List En} (i k k0 : Int) (w : World) (h : Lg w lo hi A1 n1 c1 A2 n2 c2 P D) (hn1 : n1 < 1099511627776) (hn2 : n2 < 1099511627776) (hk0 : 0 ≤ k0) (hk1 : k0 < 1099511627776) :
    Calls Try.prog 13 #[gpV i k (.slice A1 n1 c1) (.slice A2 n2 c2), .int .i64 k0] w fun e w' => e = .returned (.int .i64 (k0 + 4 * (n1 : Int) + 4 * (n2 : Int))) ∧ Lg w' lo hi A1 n1 c1 A2 n2 c2 (marksE k0 n1) (marksE (k0 + 4 * (n1 : Int)) n2) ∧ Kp (fun b => lo ≤ b ∧ b < hi) w w' := by
  have B := hid (below1 w (.cells #[.int .i64 i, .int .i64 k, .slice A1 n1 c1, .slice A2 n2 c2] 24))
  have C := hid (Cs.new w 24 #[.int .i64 i, .int .i64 k, .slice A1 n1 c1, .slice A2 n2 c2])
  have O := hid (h.ow.below B.out)
  have hbs := hid h.hb
  have hhi := h.hi
  have hlo1 := hid (fun b hb => (h.ow.op.lt b hb).1 : ∀ b, (Value.slice A1 n1 c1).ownBlock = some b → lo ≤ b)
  have hlo2 := hid (fun b hb => (h.ow.od.lt b hb).1 : ∀ b, (Value.slice A2 n2 c2).ownBlock = some b → lo ≤ b)
  clear h
  go_enter Try.func13, Try.ntmps13
  go_wp2_with fail
  refine (markEntryS_any k0 _ O.out.op O.out.l1 hn1 hk0 (by omega)).mono ?_
  rintro e w1 ⟨rfl, o1, g1, s1⟩
  have K1 := hid ((Kp.refl (fun b => (Value.slice A1 n1 c1).ownBlock = some b) _).grown g1 (fun j e => .inr e))
  have C1 := hid (C.out.kp K1.out (fun e => by have := hbs.out _ (.inl e); omega))
  have O2 := hid (K1.out.own O.out.od (fun j e h1 => O.out.ne j h1 e))
  have O1 := hid o1
  have L2 := hid O.out.l2
  have NE := hid O.out.ne
  have KK := hid ((Kp.of_below (S := fun b => lo ≤ b ∧ b < hi) B.out).trans K1.out (fun j hj e => ⟨hlo1.out j e, hbs.out j (.inl e)⟩))
  obtain ⟨c0, c1', c2', c3⟩ := C1.out.four
  clear g1 o1 K1 C O B s1
  go_wp2_with fail
  refine (markEntryS_any (k0 + 4 * (n1 : Int)) _ O2.out L2.out hn2 (by omega) (by omega)).mono ?_
  rintro e w2 ⟨rfl, o2, g2, s2⟩
  have K2 := hid ((Kp.refl (fun b => (Value.slice A2 n2 c2).ownBlock = some b) _).grown g2 (fun j e => .inr e))
  have P1 := hid (K2.out.own O1.out (fun j e h2 => NE.out j e h2))
  have KF := hid (KK.out.trans K2.out (fun j hj e => ⟨hlo2.out j e, hbs.out j (.inr e)⟩))
  have HF := hid (show Lg w2 lo hi A1 n1 c1 A2 n2 c2 (marksE k0 n1) (marksE (k0 + 4 * (n1 : Int)) n2) from ⟨⟨P1.out, o2, marksE_len _ _, marksE_len _ _, NE.out⟩, hbs.out, Nat.le_trans hhi KF.out.size⟩)
  clear g2 o2 K2 O1 O2 KK C1 c0 c1' c2' c3 P1 s2
  go_wp2
  go_ret
  exact ⟨rfl, HF.out, KF.out⟩

set_option maxHeartbeats 2000000 in
theorem heldGroup_any {n1 c1 n2 c2 : Nat} {A1 A2 : Option Addr} (i k k0 : Int) (w : World) (h1 : RdE w w.heap.size A1 n1 (marksE k0 n1)) (h2 : RdE w w.heap.size A2 n2 (marksE (k0 + 4 * (n1 : Int)) n2)) (hn1 : n1 < 1099511627776) (hn2 : n2 < 1099511627776) (hk0 : 0 ≤ k0) (hk1 : k0 < 1099511627776) :
    Calls Try.prog 14 #[gpV i k (.slice A1 n1 c1) (.slice A2 n2 c2), .int .i64 k0] w fun e w' => e = .returned (.int .i64 (k0 + 4 * (n1 : Int) + 4 * (n2 : Int))) ∧ Below w.heap.size w w' := by
  have B := hid (below1 w (.cells #[.int .i64 i, .int .i64 k, .slice A1 n1 c1, .slice A2 n2 c2] 24))
  have r1 := hid (h1.below B.out)
  have r2 := hid (h2.below B.out)
  clear h1 h2
  go_enter Try.func14, Try.ntmps14
  go_wp2_with fail
  refine (heldEntryS_any k0 _ r1.out hn1 hk0 (by omega)).mono ?_
  rintro e w1 ⟨rfl, rfl⟩
  have g0 : ¬ (k0 + 4 * (n1 : Int) < 0) := by omega
  go_wp2_with fail
  refine (heldEntryS_any (k0 + 4 * (n1 : Int)) _ r2.out hn2 (by omega) (by omega)).mono ?_
  rintro e w1 ⟨rfl, rfl⟩
  have g1 : ¬ (k0 + 4 * (n1 : Int) + 4 * (n2 : Int) < 0) := by omega
  go_wp2
  go_ret
  exact ⟨rfl, B.out⟩
end Go.Proofs.Ytefpekehlmnnlaa
