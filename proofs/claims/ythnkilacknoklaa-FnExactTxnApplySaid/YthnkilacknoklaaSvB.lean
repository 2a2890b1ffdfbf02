/-
  What the exact laws of the store do with one transaction: its copy, comparison, marks; lists of bools. No condition but lengths below 2^40.
-/
import Derived.Test.YthnkilacknoklaaSvA
namespace Go.Proofs.Ythnkilacknoklaa
open Go.RowKit
set_option linter.unusedVariables false
set_option linter.unusedSimpArgs false

/-- a round of the call's own -/
structure OwT (w : World) (lo : Nat) (A1 : Option Addr) (n1 c1 : Nat) (A2 : Option Addr) (n2 c2 : Nat) (gs : List Int) (xs : List (Int × Int)) : Prop where
  og : OwI w lo (.slice A1 n1 c1) gs
  os : OwP w lo (.slice A2 n2 c2) xs
  l1 : gs.length = n1
  l2 : xs.length = n2

section
variable {w w' : World} {lo lo' n1 c1 n2 c2 : Nat} {A1 A2 : Option Addr} {gs : List Int} {xs : List (Int × Int)} {v : Value}

theorem OwP.cap (h : OwP w lo (.slice A2 n2 c2) xs) (hl : xs.length = n2) : n2 ≤ c2 ∧ c2 ≤ 9223372036854775807 := by
  obtain ⟨A', c', e, _, h1, h2⟩ := h.form
  injection e with e1 e2 e3
  subst e3
  rw [hl] at h1
  exact ⟨h1, h2⟩

theorem OwP.rd (h : OwP w lo (.slice A2 n2 c2) xs) (hl : xs.length = n2) : RdP w A2 n2 xs := by
  obtain ⟨A', c', e, h1, _⟩ := h.form
  injection e with e1 e2 e3
  subst e1
  rw [← hl]; exact h1

theorem OwI.rd_ {zs : List Int} (h : OwI w lo (.slice A1 n1 c1) zs) (hl : zs.length = n1) : RdI w w.heap.size A1 n1 zs := by
  obtain ⟨A', c', e, h1⟩ := h.form
  injection e with e1 e2 e3
  subst e1
  rw [← hl]; exact h1

theorem OwI.kp {S : Nat → Prop} {zs : List Int} (ho : OwI w lo v zs) (h : Kp S w w') (hS : ∀ k, v.ownBlock = some k → ¬ S k) : OwI w' lo v zs := h.ownI ho hS

theorem OwP.kp {S : Nat → Prop} (ho : OwP w lo v xs) (h : Kp S w w') (hS : ∀ k, v.ownBlock = some k → ¬ S k) : OwP w' lo v xs :=
  ho.of_block fun g hg => h.block g (ho.lt g hg).2 (hS g hg)

theorem OwI.setFar {zs : List Int} (h : OwI w lo v zs) {p : Addr} (hp : v.ownBlock ≠ some p.block) (u : Value) : OwI (w.setCell p u) lo v zs :=
  own_of_block h fun g hg => Below.heap_setCell w p u g (fun e => hp (by rw [hg, e]))

theorem OwP.setFar (h : OwP w lo v xs) {p : Addr} (hp : v.ownBlock ≠ some p.block) (u : Value) : OwP (w.setCell p u) lo v xs :=
  h.of_block fun g hg => Below.heap_setCell w p u g (fun e => hp (by rw [hg, e]))

theorem OwI.setLow {zs : List Int} (h : OwI w lo v zs) {p : Addr} (hp : p.block < lo) (u : Value) : OwI (w.setCell p u) lo v zs := h.setFar (fun e => by have := (h.lt _ e).1; omega) u

theorem OwP.setLow (h : OwP w lo v xs) {p : Addr} (hp : p.block < lo) (u : Value) : OwP (w.setCell p u) lo v xs := h.setFar (fun e => by have := (h.lt _ e).1; omega) u

theorem OwT.below (h : OwT w lo A1 n1 c1 A2 n2 c2 gs xs) (hb : Below w.heap.size w w') : OwT w' lo A1 n1 c1 A2 n2 c2 gs xs := ⟨h.og.stepS hb, h.os.below hb, h.l1, h.l2⟩

theorem OwT.more (h : OwT w lo A1 n1 c1 A2 n2 c2 gs xs) (hl : lo' ≤ lo) : OwT w lo' A1 n1 c1 A2 n2 c2 gs xs := ⟨h.og.more hl, h.os.more hl, h.l1, h.l2⟩

theorem OwT.setLow (h : OwT w lo A1 n1 c1 A2 n2 c2 gs xs) {p : Addr} (hp : p.block < lo) (u : Value) : OwT (w.setCell p u) lo A1 n1 c1 A2 n2 c2 gs xs := ⟨h.og.setLow hp u, h.os.setLow hp u, h.l1, h.l2⟩

theorem Cs.set3T {b : Nat} {T : TypeId} {a0 a1 a2 : Value} (h : Cs w b T #[a0, a1, a2]) (u0 u1 u2 : Value) : Cs (((w.setCell ⟨b, 0, none⟩ u0).setCell ⟨b, 1, none⟩ u1).setCell ⟨b, 2, none⟩ u2) b T #[u0, u1, u2] := ((h.set 0 u0).set 1 u1).set 2 u2
end

set_option maxHeartbeats 1000000 in
theorem eqTxn_same {n1 c1 n2 c2 d1 d2 : Nat} {A1 A2 B1 B2 : Option Addr} {gs : List Int} {xs : List (Int × Int)} (m : Int) (w : World) (h1 : RdI w w.heap.size A1 n1 gs) (h2 : RdP w A2 n2 xs) (h3 : RdI w w.heap.size B1 n1 gs) (h4 : RdP w B2 n2 xs) (hn1 : n1 < 1099511627776) (hn2 : n2 < 1099511627776) :
    Calls Try.prog 18 #[txV (.slice A1 n1 c1) m (.slice A2 n2 c2), txV (.slice B1 n1 d1) m (.slice B2 n2 d2)] w fun e w' => e = .returned (.bool true) ∧ Below w.heap.size w w' := by
  obtain ⟨w0, hw0⟩ : ∃ W, ((w.alloc (.cells #[.slice A1 n1 c1, .int .i64 m, .slice A2 n2 c2] 33)).alloc (.cells #[.slice B1 n1 d1, .int .i64 m, .slice B2 n2 d2] 33)) = W := ⟨_, rfl⟩
  have B := hid (show Below w.heap.size w w0 by rw [← hw0]; exact below2 w _ _)
  have C0 := hid (show Cs w0 w.heap.size 33 #[.slice A1 n1 c1, .int .i64 m, .slice A2 n2 c2] by rw [← hw0]; exact (Cs.new w _ _).alloc _)
  have C1 := hid (show Cs w0 (w.heap.size + 1) 33 #[.slice B1 n1 d1, .int .i64 m, .slice B2 n2 d2] by rw [← hw0]; exact Cs.new' _ _ _ (by simp))
  have r1 := hid ((Reads.below h1 B.out).more B.out.size)
  have r2 := hid (h2.below B.out)
  have r3 := hid ((Reads.below h3 B.out).more B.out.size)
  have r4 := hid (h4.below B.out)
  have hz0 : w.heap.size ≤ w0.heap.size := B.out.size
  replace hw0 := hid hw0
  clear h1 h2 h3 h4
  go_enter Try.func18, Try.ntmps18
  go_upto_region 1 with (fail)
  rw [hw0.out]
  obtain ⟨a0, a1, a2⟩ := C0.out.tri
  obtain ⟨b0, b1, b2⟩ := C1.out.tri
  go_wp2_with fail
  refine (eqIntS_any _ r1.out r3.out hn1 hn1).mono ?_
  rw [sameB_self]
  rintro e w1 ⟨rfl, hq⟩
  have hb1 := hq.below w0.heap.size
  have D0 := hid (C0.out.step hb1)
  have D1 := hid (C1.out.step hb1)
  have s2 := hid (r2.out.below hb1)
  have s4 := hid (r4.out.below hb1)
  have hB1 := hid (B.out.trans (hb1.mono hz0))
  have hz1 : w.heap.size ≤ w1.heap.size := Nat.le_trans hz0 hb1.size
  clear hq hb1 a0 a1 a2 b0 b1 b2 C0 C1 r1 r2 r3 r4 B
  obtain ⟨a0, a1, a2⟩ := D0.out.tri
  obtain ⟨b0, b1, b2⟩ := D1.out.tri
  go_wp2_with fail
  refine (eqPutS_same _ s2.out s4.out hn2).mono ?_
  rintro e w2 ⟨rfl, hb2⟩
  have hB2 := hid (hB1.out.trans (hb2.mono hz1))
  clear hb2 a0 a1 a2 b0 b1 b2
  go_wp2
  go_ret
  exact ⟨rfl, hB2.out⟩


/-! ### a transaction that is live -/
structure Lt (w : World) (lo hi : Nat) (A1 : Option Addr) (n1 c1 : Nat) (A2 : Option Addr) (n2 c2 : Nat) (gs : List Int) (xs : List (Int × Int)) : Prop where
  ow : OwT w lo A1 n1 c1 A2 n2 c2 gs xs
  hb : ∀ b, (Value.slice A1 n1 c1).ownBlock = some b ∨ (Value.slice A2 n2 c2).ownBlock = some b → b < hi
  hi : hi ≤ w.heap.size
section
variable {w w' : World} {S : Nat → Prop} {lo hi n1 c1 n2 c2 : Nat} {A1 A2 : Option Addr} {gs : List Int} {xs : List (Int × Int)}

theorem Lt.of (h : OwT w lo A1 n1 c1 A2 n2 c2 gs xs) : Lt w lo w.heap.size A1 n1 c1 A2 n2 c2 gs xs :=
  ⟨h, fun b hb => by rcases hb with hb | hb; exact (h.og.lt b hb).2; exact (h.os.lt b hb).2, Nat.le_refl _⟩

theorem Lt.step (h : Lt w lo hi A1 n1 c1 A2 n2 c2 gs xs) (hb : Below w.heap.size w w') : Lt w' lo hi A1 n1 c1 A2 n2 c2 gs xs := ⟨h.ow.below hb, h.hb, Nat.le_trans h.hi hb.size⟩

theorem Lt.kp (h : Lt w lo hi A1 n1 c1 A2 n2 c2 gs xs) (hk : Kp S w w') (hS : ∀ b, lo ≤ b → b < hi → ¬ S b) : Lt w' lo hi A1 n1 c1 A2 n2 c2 gs xs :=
  ⟨⟨h.ow.og.kp hk (fun k hk' => hS k (h.ow.og.lt k hk').1 (h.hb k (.inl hk'))), h.ow.os.kp hk (fun k hk' => hS k (h.ow.os.lt k hk').1 (h.hb k (.inr hk'))), h.ow.l1, h.ow.l2⟩, h.hb, Nat.le_trans h.hi hk.size⟩

theorem Lt.kpo (h : Lt w lo hi A1 n1 c1 A2 n2 c2 gs xs) (hk : Kp S w w') (h1 : ∀ b, (Value.slice A1 n1 c1).ownBlock = some b → ¬ S b) (h2 : ∀ b, (Value.slice A2 n2 c2).ownBlock = some b → ¬ S b) : Lt w' lo hi A1 n1 c1 A2 n2 c2 gs xs :=
  ⟨⟨h.ow.og.kp hk h1, h.ow.os.kp hk h2, h.ow.l1, h.ow.l2⟩, h.hb, Nat.le_trans h.hi hk.size⟩

theorem Lt.r1 (h : Lt w lo hi A1 n1 c1 A2 n2 c2 gs xs) : RdI w w.heap.size A1 n1 gs := h.ow.og.rd_ h.ow.l1

theorem Lt.r2 (h : Lt w lo hi A1 n1 c1 A2 n2 c2 gs xs) : RdP w A2 n2 xs := h.ow.os.rd h.ow.l2
end

set_option maxHeartbeats 2000000 in
theorem markTxn_any {lo hi n1 c1 n2 c2 : Nat} {A1 A2 : Option Addr} {gs : List Int} {xs : List (Int × Int)} (i k0 : Int) (w : World) (h : Lt w lo hi A1 n1 c1 A2 n2 c2 gs xs) (hn1 : n1 < 1099511627776) (hn2 : n2 < 1099511627776) (hk0 : 0 ≤ k0) (hk1 : k0 < 1099511627776) :
    Calls Try.prog 21 #[txV (.slice A1 n1 c1) i (.slice A2 n2 c2), .int .i64 k0] w fun e w' => e = .returned (.int .i64 (k0 + (n1 : Int) + 2 * (n2 : Int))) ∧ Lt w' lo hi A1 n1 c1 A2 n2 c2 (marks k0 n1) (marksP (k0 + (n1 : Int)) n2) ∧ Kp (fun b => lo ≤ b ∧ b < hi) w w' := by
  have B := hid (below1 w (.cells #[.slice A1 n1 c1, .int .i64 i, .slice A2 n2 c2] 33))
  have C := hid (Cs.new w 33 #[.slice A1 n1 c1, .int .i64 i, .slice A2 n2 c2])
  have O := hid (h.ow.below B.out)
  have hbs := hid h.hb
  have hhi := h.hi
  have hlo1 := hid (fun b hb => (h.ow.og.lt b hb).1 : ∀ b, (Value.slice A1 n1 c1).ownBlock = some b → lo ≤ b)
  have hlo2 := hid (fun b hb => (h.ow.os.lt b hb).1 : ∀ b, (Value.slice A2 n2 c2).ownBlock = some b → lo ≤ b)
  have NE := hid (own_type h.ow.og h.ow.os (by decide))
  have hmz : w.heap.size < (w.alloc (.cells #[.slice A1 n1 c1, .int .i64 i, .slice A2 n2 c2] 33)).heap.size := by simp
  have LV := hid (show Lv (w.alloc (.cells #[.slice A1 n1 c1, .int .i64 i, .slice A2 n2 c2] 33)) lo hi (.slice A1 n1 c1) gs from ⟨⟨O.out.og, fun b hb => hbs.out b (.inl hb)⟩, by omega⟩)
  clear h
  go_enter Try.func21, Try.ntmps21
  go_wp2_with fail
  refine (markIntS_lv k0 _ LV.out hn1 hk0 (by omega)).mono ?_
  rintro e w1 ⟨rfl, o1, g1, s1⟩
  have K1 := hid ((Kp.refl (fun b => (Value.slice A1 n1 c1).ownBlock = some b) _).grown g1 (fun j e => .inr e))
  have C1 := hid (C.out.kp K1.out (fun e => by have := hbs.out _ (.inl e); omega))
  have O2 := hid (O.out.os.kp K1.out (fun j e h1 => NE.out j h1 e))
  have O1 := hid o1.1.1
  have L2 := hid O.out.l2
  have KK := hid ((Kp.of_below (S := fun b => lo ≤ b ∧ b < hi) B.out).trans K1.out (fun j hj e => ⟨hlo1.out j e, hbs.out j (.inl e)⟩))
  obtain ⟨c0, c1', c2'⟩ := C1.out.tri
  clear g1 o1 K1 C O B s1 LV
  go_wp2_with fail
  refine (markPutS_any (k0 + (n1 : Int)) _ O2.out L2.out hn2 (by omega) (by omega)).mono ?_
  rintro e w2 ⟨rfl, o2, g2, s2⟩
  have K2 := hid ((Kp.refl (fun b => (Value.slice A2 n2 c2).ownBlock = some b) _).grown g2 (fun j e => .inr e))
  have P1 := hid (O1.out.kp K2.out (fun j e h2 => NE.out j e h2))
  have KF := hid (KK.out.trans K2.out (fun j hj e => ⟨hlo2.out j e, hbs.out j (.inr e)⟩))
  have HF := hid (show Lt w2 lo hi A1 n1 c1 A2 n2 c2 (marks k0 n1) (marksP (k0 + (n1 : Int)) n2) from ⟨⟨P1.out, by show World.ownsRow _ _ _ _ _ _ _; exact o2, marks_len _ _, marksP_len _ _⟩, hbs.out, Nat.le_trans hhi KF.out.size⟩)
  clear g2 o2 K2 O1 O2 KK C1 c0 c1' c2' P1 s2
  go_wp2
  go_ret
  exact ⟨rfl, HF.out, KF.out⟩


/-- a copy of a transaction: its two slices in memory of its own -/
def TxPost (m : Int) (gs : List Int) (xs : List (Int × Int)) (w : World) (e : Ending) (w' : World) : Prop :=
  ∃ A1 c1 A2 c2, e = .returned (txV (.slice A1 gs.length c1) m (.slice A2 xs.length c2)) ∧ OwT w' w.heap.size A1 gs.length c1 A2 xs.length c2 gs xs ∧ Below w.heap.size w w'

theorem below3T (w : World) (o p q : Obj) : Below w.heap.size w (((w.alloc o).alloc p).alloc q) := (below2 w o p).alloc (by simp; omega) _

set_option maxHeartbeats 4000000 in
theorem toTxn_any {n1 c1 n2 c2 : Nat} {A1 A2 : Option Addr} {gs : List Int} {xs : List (Int × Int)} (m : Int) (w : World) (h1 : RdI w w.heap.size A1 n1 gs) (h2 : RdPA w A2 n2 xs) (hn1 : n1 < 1099511627776) (hn2 : n2 < 1099511627776) :
    Calls Try.prog 16 #[txV (.slice A1 n1 c1) m (.slice A2 n2 c2)] w (TxPost m gs xs w) := by
  obtain ⟨w0, hw0⟩ : ∃ W, (((w.alloc (.cells #[.slice A1 n1 c1, .int .i64 m, .slice A2 n2 c2] 28)).alloc (.cells #[.slice none 0 0, .int .i64 0, .slice none 0 0] 33)).alloc (.cells #[.slice none 0 0, .int .i64 0, .slice none 0 0] 33)) = W := ⟨_, rfl⟩
  have B := hid (show Below w.heap.size w w0 by rw [← hw0]; exact below3T w _ _ _)
  have C0 := hid (show Cs w0 w.heap.size 28 #[.slice A1 n1 c1, .int .i64 m, .slice A2 n2 c2] by rw [← hw0]; exact ((Cs.new w _ _).alloc _).alloc _)
  have C1 := hid (show Cs w0 (w.heap.size + 1) 33 #[.slice none 0 0, .int .i64 0, .slice none 0 0] by rw [← hw0]; exact (Cs.new' _ _ _ (by simp)).alloc _)
  have C2 := hid (show Cs w0 (w.heap.size + 1 + 1) 33 #[.slice none 0 0, .int .i64 0, .slice none 0 0] by rw [← hw0]; exact Cs.new' _ _ _ (by simp))
  have hz0 : w.heap.size + 3 = w0.heap.size := by rw [← hw0]; simp
  have X1 := hid ((Reads.below h1 B.out).more B.out.size)
  have h2' := hid h2
  have hw0' := hid hw0
  have hz0 := hid hz0
  have hlt2 : w.heap.size + 1 + 1 < w0.heap.size := by have := hz0.out; omega
  clear hw0 h1 h2
  go_enter Try.func16, Try.ntmps16
  go_upto_region 2 with (fail)
  rw [hw0'.out]
  obtain ⟨a0, a1, a2⟩ := C0.out.tri
  go_wp2_with fail
  refine (toIntS_any _ X1.out hn1).mono ?_
  rintro e w1 ⟨v1, rfl, o1, hb1⟩
  obtain ⟨Ga, gc, rfl, -⟩ := o1.rd (Nat.le_refl _)
  have D0 := hid (C0.out.step hb1)
  have D1 := hid (C1.out.step hb1)
  have D2 := hid (C2.out.step hb1)
  have O1 := hid o1.1
  have B1 := hid (B.out.trans (hb1.mono (by omega)))
  have hz1 : w0.heap.size ≤ w1.heap.size := hb1.size
  obtain ⟨x0, x1, x2⟩ := D2.out.tri
  obtain ⟨y0, y1, y2⟩ := D2.out.triF
  clear hb1 C0 C1 C2 B X1 a0 a1 a2 o1
  obtain ⟨a0, a1, a2⟩ := D0.out.tri
  have hne0 : w.heap.size ≠ w.heap.size + 1 + 1 := by omega
  go_upto_region 3 with (fail)
  obtain ⟨W0, hW0⟩ : ∃ W, w1.setCell ⟨w.heap.size + 1 + 1, 0, none⟩ (.slice Ga gs.length gc) = W := ⟨_, rfl⟩
  rw [hW0]
  have hzW : w1.heap.size ≤ W0.heap.size := by rw [← hW0]; simp [World.setCell]
  have hbW := hid (show Below w.heap.size w W0 by rw [← hW0]; exact B1.out.setCell (by simp; omega) _)
  have E0 := hid (show Cs W0 w.heap.size 28 #[.slice A1 n1 c1, .int .i64 m, .slice A2 n2 c2] by rw [← hW0]; exact D0.out.far (by simp; omega) _)
  have E1 := hid (show Cs W0 (w.heap.size + 1) 33 #[.slice none 0 0, .int .i64 0, .slice none 0 0] by rw [← hW0]; exact D1.out.far (by simp) _)
  have E2 := hid (show Cs W0 (w.heap.size + 1 + 1) 33 #[.slice Ga gs.length gc, .int .i64 0, .slice none 0 0] by rw [← hW0]; exact D2.out.set 0 _)
  have P1 := hid (show OwI W0 w0.heap.size (.slice Ga gs.length gc) gs by rw [← hW0]; exact O1.out.setLow hlt2 _)
  clear hW0 D0 D1 D2 O1 B1 x0 x1 x2 y0 y1 y2 a0 a1 a2
  obtain ⟨a0, a1, a2⟩ := E0.out.tri
  obtain ⟨x0, x1, x2⟩ := E2.out.tri
  obtain ⟨y0, y1, y2⟩ := E2.out.triF
  go_upto_region 4 with (fail)
  obtain ⟨W1, hW1⟩ : ∃ W, W0.setCell ⟨w.heap.size + 1 + 1, 1, none⟩ (.int .i64 m) = W := ⟨_, rfl⟩
  rw [hW1]
  have hzW1 : W0.heap.size ≤ W1.heap.size := by rw [← hW1]; simp [World.setCell]
  have hbW1 := hid (show Below w.heap.size w W1 by rw [← hW1]; exact hbW.out.setCell (by simp; omega) _)
  have F0 := hid (show Cs W1 w.heap.size 28 #[.slice A1 n1 c1, .int .i64 m, .slice A2 n2 c2] by rw [← hW1]; exact E0.out.far (by simp; omega) _)
  have F1 := hid (show Cs W1 (w.heap.size + 1) 33 #[.slice none 0 0, .int .i64 0, .slice none 0 0] by rw [← hW1]; exact E1.out.far (by simp) _)
  have F2 := hid (show Cs W1 (w.heap.size + 1 + 1) 33 #[.slice Ga gs.length gc, .int .i64 m, .slice none 0 0] by rw [← hW1]; exact E2.out.set 1 _)
  have Q1 := hid (show OwI W1 w0.heap.size (.slice Ga gs.length gc) gs by rw [← hW1]; exact P1.out.setLow hlt2 _)
  have Z2 := hid (h2'.out.below hbW1.out)
  clear hW1 E0 E1 E2 P1 hbW x0 x1 x2 y0 y1 y2 a0 a1 a2
  obtain ⟨a0, a1, a2⟩ := F0.out.tri
  go_wp2_with fail
  refine (toPutS_any _ Z2.out hn2).mono ?_
  rintro e w2 ⟨v2, rfl, o2, hb2⟩
  obtain ⟨Sa, sc, rfl, -, -, -⟩ := o2.form
  have G1 := hid (F1.out.step hb2)
  have G2 := hid (F2.out.step hb2)
  have R1 := hid (Q1.out.stepS hb2)
  have R2 := hid (o2.more (B' := w0.heap.size) (by omega))
  have B2 := hid (hbW1.out.trans (hb2.mono (by omega)))
  obtain ⟨x0, x1, x2⟩ := G2.out.tri
  obtain ⟨y0, y1, y2⟩ := G2.out.triF
  clear hb2 F0 F1 F2 a0 a1 a2 o2 Q1 Z2 hbW1
  go_upto_region 5 with (fail)
  obtain ⟨W2, hW2⟩ : ∃ W, w2.setCell ⟨w.heap.size + 1 + 1, 2, none⟩ (.slice Sa xs.length sc) = W := ⟨_, rfl⟩
  rw [hW2]
  have hbX := hid (show Below w.heap.size w W2 by rw [← hW2]; exact B2.out.setCell (by simp; omega) _)
  have H1 := hid (show Cs W2 (w.heap.size + 1) 33 #[.slice none 0 0, .int .i64 0, .slice none 0 0] by rw [← hW2]; exact G1.out.far (by simp) _)
  have H2 := hid (show Cs W2 (w.heap.size + 1 + 1) 33 #[.slice Ga gs.length gc, .int .i64 m, .slice Sa xs.length sc] by rw [← hW2]; exact G2.out.set 2 _)
  have oR := hid (show OwT W2 w0.heap.size Ga gs.length gc Sa xs.length sc gs xs by rw [← hW2]; exact (OwT.mk R1.out R2.out rfl rfl).setLow hlt2 _)
  clear hW2 G1 G2 R1 R2 B2 x0 x1 x2 y0 y1 y2
  obtain ⟨x0, x1, x2⟩ := H2.out.tri
  obtain ⟨z0, z1, z2⟩ := H1.out.tri
  obtain ⟨y0, y1, y2⟩ := H1.out.triF
  have hlt1 : w.heap.size + 1 < w0.heap.size := by omega
  have hY := hid (H1.out.set3T (.slice Ga gs.length gc) (.int .i64 m) (.slice Sa xs.length sc)).tri
  have hO := hid (((oR.out.setLow (p := ⟨w.heap.size + 1, 0, none⟩) hlt1 (.slice Ga gs.length gc)).setLow (p := ⟨w.heap.size + 1, 1, none⟩) hlt1 (.int .i64 m)).setLow (p := ⟨w.heap.size + 1, 2, none⟩) hlt1 (.slice Sa xs.length sc))
  go_wp2
  obtain ⟨r0, r1, r2⟩ := hY.out
  refine bodyPost_ret (v := txV (.slice Ga gs.length gc) m (.slice Sa xs.length sc)) (by simp [results, Try.results16, go_sem, r0, r1, r2]) rfl ?_
  exact ⟨Ga, gc, Sa, sc, rfl, hO.out.more (lo' := w.heap.size) (by omega), ((hbX.out.setCell (by simp <;> omega) _).setCell (by simp <;> omega) _).setCell (by simp <;> omega) _⟩

end Go.Proofs.Ythnkilacknoklaa
