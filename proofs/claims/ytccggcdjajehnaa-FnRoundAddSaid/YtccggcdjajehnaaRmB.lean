/-
  Rounds in memory: read, owned; the program's round by value (thirteen cells). No condition.
-/
import Derived.Test.YtccggcdjajehnaaMm
import Derived.Test.YtccggcdjajehnaaRmA
namespace Go.Proofs.Ytccggcdjajehnaa
open Go.RowKit
set_option linter.unusedVariables false
set_option linter.unusedSimpArgs false

/-- a round by value: its message, its groups, its stamps -/
abbrev rnV (m : Int) (G S : Value) : Value := .agg #[.int .i64 m, G, S]
section
variable {w w' : World} {b : Nat} {T : TypeId} {a0 a1 a2 : Value}

theorem Cs.three (h : Cs w b T #[a0, a1, a2]) : w.cell? ⟨b, 0, none⟩ = some a0 ∧ w.cell? ⟨b, 1, none⟩ = some a1 ∧ w.cell? ⟨b, 2, none⟩ = some a2 := ⟨h.cell 0, h.cell 1, h.cell 2⟩

theorem Cs.free3 {cs : Array Value} (h : Cs w b T cs) : w.frozen? ⟨b, 0, none⟩ = false ∧ w.frozen? ⟨b, 1, none⟩ = false ∧ w.frozen? ⟨b, 2, none⟩ = false := ⟨h.frozen 0, h.frozen 1, h.frozen 2⟩

theorem Cs.set3 (h : Cs w b T #[a0, a1, a2]) (u0 u1 u2 : Value) : Cs (((w.setCell ⟨b, 0, none⟩ u0).setCell ⟨b, 1, none⟩ u1).setCell ⟨b, 2, none⟩ u2) b T #[u0, u1, u2] := ((h.set 0 u0).set 1 u1).set 2 u2

theorem Kp.set3 {S : Nat → Prop} (h : Kp S w w') {b : Nat} (hb : S b) (u0 u1 u2 : Value) : Kp S w (((w'.setCell ⟨b, 0, none⟩ u0).setCell ⟨b, 1, none⟩ u1).setCell ⟨b, 2, none⟩ u2) :=
  ((h.setCell (.inr hb) _).setCell (.inr hb) _).setCell (.inr hb) _
end

/-! ### slices of stamps once more -/
section
variable {w w' : World} {B n c : Nat} {A : Option Addr} {xs : List St} {v : Value}

theorem RdS.drew (h : RdS w A n xs) : RdS w.drew A n xs := h

theorem RdS.keep (h : RdS w A n xs) (hz : w.heap.size ≤ w'.heap.size) (hk : ∀ p : Addr, p.block < w.heap.size → w'.cell? p = w.cell? p) : RdS w' A n xs :=
  ⟨h.1, fun hn => by
    obtain ⟨b, off, e, hl, hc⟩ := h.2 hn
    exact ⟨b, off, e, Nat.lt_of_lt_of_le hl hz, fun j x hx => ⟨(hk ⟨b, _, none⟩ hl).trans (hc j x hx).1, (hk ⟨b, _, none⟩ hl).trans (hc j x hx).2⟩⟩⟩

theorem OwS.rd (h : OwS w B (.slice A n c) xs) (hl : xs.length = n) : RdS w A n xs := by
  obtain ⟨A', c', e, h1, _⟩ := h.form
  injection e with e1 e2 e3
  subst e1
  rw [← hl]; exact h1

theorem OwS.cap (h : OwS w B (.slice A n c) xs) (hl : xs.length = n) : n ≤ c ∧ c ≤ 9223372036854775807 := by
  obtain ⟨A', c', e, _, h1, h2⟩ := h.form
  injection e with e1 e2 e3
  subst e3
  rw [hl] at h1
  exact ⟨h1, h2⟩

theorem OwI.rd_ {zs : List Int} (h : OwI w B (.slice A n c) zs) (hl : zs.length = n) : RdI w w.heap.size A n zs := by
  obtain ⟨A', c', e, h1⟩ := h.form
  injection e with e1 e2 e3
  subst e1
  rw [← hl]; exact h1

theorem OwI.stp {zs : List Int} (h : OwI w B v zs) (hb : Below w.heap.size w w') : OwI w' B v zs := own_of_block h fun g hg => hb.block g (h.lt g hg).2

theorem OwI.drew_ {zs : List Int} (h : OwI w B v zs) : OwI w.drew B v zs := h

theorem OwS.drew_ (h : OwS w B v xs) : OwS w.drew B v xs := h

theorem OwI.kp {S : Nat → Prop} {zs : List Int} (ho : OwI w B v zs) (h : Kp S w w') (hS : ∀ k, v.ownBlock = some k → ¬ S k) : OwI w' B v zs := h.ownI ho hS

theorem OwS.kp {S : Nat → Prop} (ho : OwS w B v xs) (h : Kp S w w') (hS : ∀ k, v.ownBlock = some k → ¬ S k) : OwS w' B v xs :=
  ho.of_block fun g hg => h.block g (ho.lt g hg).2 (hS g hg)

theorem OwI.setFar {zs : List Int} (h : OwI w B v zs) {p : Addr} (hp : v.ownBlock ≠ some p.block) (u : Value) : OwI (w.setCell p u) B v zs :=
  own_of_block h fun g hg => Below.heap_setCell w p u g (fun e => hp (by rw [hg, e]))

theorem OwS.setFar (h : OwS w B v xs) {p : Addr} (hp : v.ownBlock ≠ some p.block) (u : Value) : OwS (w.setCell p u) B v xs :=
  h.of_block fun g hg => Below.heap_setCell w p u g (fun e => hp (by rw [hg, e]))

theorem OwI.setLow {zs : List Int} (h : OwI w B v zs) {p : Addr} (hp : p.block < B) (u : Value) : OwI (w.setCell p u) B v zs := h.setFar (fun e => by have := (h.lt _ e).1; omega) u

theorem OwS.setLow (h : OwS w B v xs) {p : Addr} (hp : p.block < B) (u : Value) : OwS (w.setCell p u) B v xs := h.setFar (fun e => by have := (h.lt _ e).1; omega) u
end

/-- One append of one stamp, what else lies told: 'out = append(out, x)'. The literal's block lies already. -/
theorem wpList_appStG {w : World} {ops : Array Oper} {rest : List Oper} {o : Oper} {a : Act} {Q : Exit → Act → World → Prop} (hgd : o.guard = none) (s x : Operand)
    (ho : o.op = .call { callee := .builtin .append, args := #[s, x], argTypes := #[26, 26] })
    (B : Nat) (t k : Int) (v : Value) (zs : List St) (hs : a.eval s = v) (hx : a.eval x = .slice (some ⟨w.heap.size, 0, none⟩) 1 1) (hown : OwS w B v zs) (hB : B ≤ w.heap.size) (hn : zs.length < 1099511627776)
    (h : ∀ v' w', OwS w' B v' (zs ++ [(t, k)]) → w.grownBy w' v.ownBlock → wpList Try.prog ops Q rest (a.put o.dst v') w') :
    wpList Try.prog ops Q (o :: rest) a (w.alloc (.cells #[.int .i64 t, .int .i64 k] 33)) := by
  obtain ⟨i0, hi, hz0, hz1, hz2⟩ := info_parts info_st
  refine wpList_append_own (P := Try.prog) _ hgd s x 26 ho B 33 i0 (.agg #[.int .i64 0, .int .i64 0]) 2 16 Try.underlying26 hi hz0 hz1 hz2 rfl (by decide) v zs.length (stc zs) hs (hown.alloc _) ⟨w.heap.size, 0, none⟩ 1 1 [.int .i64 t, .int .i64 k] hx rfl ?_ ?_ ?_ ?_ ?_ ?_
  · intro j u hj
    match j, hj with
    | 0, hj => simp at hj; subst hj; simp [Addr.add]
    | 1, hj => simp at hj; subst hj; simp [Addr.add]
  · intro u hu; simp at hu; rcases hu with rfl | rfl <;> rfl
  · unfold maxLen; omega
  · omega
  · simp; omega
  · intro v' w' hown' hg _
    refine h v' w' ?_ ?_
    · show w'.ownsRow B 33 2 v' (zs ++ [(t, k)]).length (stc (zs ++ [(t, k)]))
      rw [stc_app, List.length_append]
      exact hown'
    · exact ⟨hg.os, hg.tape, hg.output, by have := hg.size; simp at this; omega, fun i hi hne => (hg.block i (by simp; omega) hne).trans (Below.heap_alloc w _ i hi)⟩

/-! ### rounds -/
/-- a round that is read -/
structure RdR (w : World) (A1 : Option Addr) (n1 : Nat) (A2 : Option Addr) (n2 c2 : Nat) (gs : List Int) (xs : List St) : Prop where
  g : RdI w w.heap.size A1 n1 gs
  s : RdS w A2 n2 xs
  h1 : n1 < 1099511627776
  h2 : n2 < 1099511627776
  k2 : n2 ≤ c2
  m2 : c2 ≤ 9223372036854775807
/-- a round of the call's own -/
structure OwR (w : World) (lo : Nat) (A1 : Option Addr) (n1 c1 : Nat) (A2 : Option Addr) (n2 c2 : Nat) (gs : List Int) (xs : List St) : Prop where
  og : OwI w lo (.slice A1 n1 c1) gs
  os : OwS w lo (.slice A2 n2 c2) xs
  l1 : gs.length = n1
  l2 : xs.length = n2
section
variable {w w' : World} {lo lo' n1 c1 n2 c2 : Nat} {A1 A2 : Option Addr} {gs : List Int} {xs : List St}

theorem RdR.below (h : RdR w A1 n1 A2 n2 c2 gs xs) (hb : Below w.heap.size w w') : RdR w' A1 n1 A2 n2 c2 gs xs := ⟨(Reads.below h.g hb).more hb.size, h.s.below hb, h.h1, h.h2, h.k2, h.m2⟩

theorem RdR.drew (h : RdR w A1 n1 A2 n2 c2 gs xs) : RdR w.drew A1 n1 A2 n2 c2 gs xs := ⟨h.g, h.s, h.h1, h.h2, h.k2, h.m2⟩

theorem OwR.below (h : OwR w lo A1 n1 c1 A2 n2 c2 gs xs) (hb : Below w.heap.size w w') : OwR w' lo A1 n1 c1 A2 n2 c2 gs xs := ⟨h.og.stp hb, h.os.below hb, h.l1, h.l2⟩

theorem OwR.more (h : OwR w lo A1 n1 c1 A2 n2 c2 gs xs) (hl : lo' ≤ lo) : OwR w lo' A1 n1 c1 A2 n2 c2 gs xs := ⟨h.og.more hl, h.os.more hl, h.l1, h.l2⟩

theorem OwR.rd (h : OwR w lo A1 n1 c1 A2 n2 c2 gs xs) (h1 : n1 < 1099511627776) (h2 : n2 < 1099511627776) : RdR w A1 n1 A2 n2 c2 gs xs :=
  ⟨h.og.rd_ h.l1, h.os.rd h.l2, h1, h2, (h.os.cap h.l2).1, (h.os.cap h.l2).2⟩

theorem OwR.setLow (h : OwR w lo A1 n1 c1 A2 n2 c2 gs xs) {p : Addr} (hp : p.block < lo) (u : Value) : OwR (w.setCell p u) lo A1 n1 c1 A2 n2 c2 gs xs := ⟨h.og.setLow hp u, h.os.setLow hp u, h.l1, h.l2⟩

theorem OwR.nil_ (w : World) (lo : Nat) : OwR w lo none 0 0 none 0 0 [] [] := ⟨World.ownsRow_nil w _ _ _, World.ownsRow_nil w _ _ _, rfl, rfl⟩
end
/-- what a call that makes a round hands back -/
def RnPost (m : Int) (gs : List Int) (xs : List St) (w : World) (e : Ending) (w' : World) : Prop :=
  ∃ (A1 : Option Addr) (c1 : Nat) (A2 : Option Addr) (c2 : Nat), e = .returned (rnV m (.slice A1 gs.length c1) (.slice A2 xs.length c2)) ∧ OwR w' w.heap.size A1 gs.length c1 A2 xs.length c2 gs xs ∧ Below w.heap.size w w'
/-- .. and whether it succeeded -/
def RnPost2 (o : Ro) (w : World) (e : Ending) (w' : World) : Prop :=
  ∃ (A1 : Option Addr) (c1 : Nat) (A2 : Option Addr) (c2 : Nat), e = .returned (.tuple #[rnV o.m (.slice A1 o.gs.length c1) (.slice A2 o.xs.length c2), .bool o.ok]) ∧ OwR w' w.heap.size A1 o.gs.length c1 A2 o.xs.length c2 o.gs o.xs ∧ Below w.heap.size w w'

/-! ### the program's round -/
/-- its cells: the groups, the message, the groups with stamps, a place for each group's stamp -/
abbrev grC (a : Nat) (m : Int) (d : Nat) (T : Nat → St) : Array Value :=
  #[.int .u64 a, .int .i64 m, .int .u64 d, .int .i64 (T 0).1, .int .i64 (T 0).2, .int .i64 (T 1).1, .int .i64 (T 1).2, .int .i64 (T 2).1, .int .i64 (T 2).2, .int .i64 (T 3).1, .int .i64 (T 3).2, .int .i64 (T 4).1, .int .i64 (T 4).2]

abbrev grV (a : Nat) (m : Int) (d : Nat) (T : Nat → St) : Value := .agg (grC a m d T)

abbrev At13 (w : World) (b : Nat) (a : Nat) (m : Int) (d : Nat) (T : Nat → St) : Prop := Cs w b 57 (grC a m d T)
section
variable {w w' : World} {b a d : Nat} {m : Int} {T : Nat → St}

theorem At13.head (h : At13 w b a m d T) : w.cell? ⟨b, 0, none⟩ = some (.int .u64 a) ∧ w.cell? ⟨b, 1, none⟩ = some (.int .i64 m) ∧ w.cell? ⟨b, 2, none⟩ = some (.int .u64 d) := ⟨h.cell 0, h.cell 1, h.cell 2⟩

theorem At13.all (h : At13 w b a m d T) :
    w.cell? ⟨b, 0, none⟩ = some (.int .u64 a) ∧ w.cell? ⟨b, 1, none⟩ = some (.int .i64 m) ∧ w.cell? ⟨b, 2, none⟩ = some (.int .u64 d) ∧
    w.cell? ⟨b, 3, none⟩ = some (.int .i64 (T 0).1) ∧ w.cell? ⟨b, 4, none⟩ = some (.int .i64 (T 0).2) ∧ w.cell? ⟨b, 5, none⟩ = some (.int .i64 (T 1).1) ∧ w.cell? ⟨b, 6, none⟩ = some (.int .i64 (T 1).2) ∧
    w.cell? ⟨b, 7, none⟩ = some (.int .i64 (T 2).1) ∧ w.cell? ⟨b, 8, none⟩ = some (.int .i64 (T 2).2) ∧ w.cell? ⟨b, 9, none⟩ = some (.int .i64 (T 3).1) ∧ w.cell? ⟨b, 10, none⟩ = some (.int .i64 (T 3).2) ∧
    w.cell? ⟨b, 11, none⟩ = some (.int .i64 (T 4).1) ∧ w.cell? ⟨b, 12, none⟩ = some (.int .i64 (T 4).2) :=
  ⟨h.cell 0, h.cell 1, h.cell 2, h.cell 3, h.cell 4, h.cell 5, h.cell 6, h.cell 7, h.cell 8, h.cell 9, h.cell 10, h.cell 11, h.cell 12⟩

theorem At13.free (h : At13 w b a m d T) (k : Nat) : w.frozen? ⟨b, k, none⟩ = false := h.frozen k
/-- the stamp at place k -/
theorem At13.slot (h : At13 w b a m d T) {k : Nat} (hk : k < 5) : w.cell? ⟨b, 3 + k * 2, none⟩ = some (.int .i64 (T k).1) ∧ w.cell? ⟨b, 3 + k * 2 + 1, none⟩ = some (.int .i64 (T k).2) := by
  rcases (show k = 0 ∨ k = 1 ∨ k = 2 ∨ k = 3 ∨ k = 4 by omega) with rfl | rfl | rfl | rfl | rfl
  · exact ⟨h.cell 3, h.cell 4⟩
  · exact ⟨h.cell 5, h.cell 6⟩
  · exact ⟨h.cell 7, h.cell 8⟩
  · exact ⟨h.cell 9, h.cell 10⟩
  · exact ⟨h.cell 11, h.cell 12⟩

theorem At13.setD (h : At13 w b a m d T) (d' : Nat) : At13 (w.setCell ⟨b, 2, none⟩ (.int .u64 d')) b a m d' T := h.set 2 _
/-- a stamp stored at place k -/
theorem At13.setS (h : At13 w b a m d T) {k : Nat} (hk : k < 5) (t g : Int) : At13 ((w.setCell ⟨b, 3 + k * 2, none⟩ (.int .i64 t)).setCell ⟨b, 3 + k * 2 + 1, none⟩ (.int .i64 g)) b a m d (upT T k (t, g)) := by
  have h2 := (h.set (3 + k * 2) (.int .i64 t)).set (3 + k * 2 + 1) (.int .i64 g)
  rcases (show k = 0 ∨ k = 1 ∨ k = 2 ∨ k = 3 ∨ k = 4 by omega) with rfl | rfl | rfl | rfl | rfl <;> exact h2

theorem Cs.set13 {U : TypeId} {x0 x1 x2 x3 x4 x5 x6 x7 x8 x9 x10 x11 x12 : Value} (h : Cs w b U #[x0, x1, x2, x3, x4, x5, x6, x7, x8, x9, x10, x11, x12]) (u0 u1 u2 u3 u4 u5 u6 u7 u8 u9 u10 u11 u12 : Value) :
    Cs (((((((((((((w.setCell ⟨b, 0, none⟩ u0).setCell ⟨b, 1, none⟩ u1).setCell ⟨b, 2, none⟩ u2).setCell ⟨b, 3, none⟩ u3).setCell ⟨b, 4, none⟩ u4).setCell ⟨b, 5, none⟩ u5).setCell ⟨b, 6, none⟩ u6).setCell ⟨b, 7, none⟩ u7).setCell ⟨b, 8, none⟩ u8).setCell ⟨b, 9, none⟩ u9).setCell ⟨b, 10, none⟩ u10).setCell ⟨b, 11, none⟩ u11).setCell ⟨b, 12, none⟩ u12) b U #[u0, u1, u2, u3, u4, u5, u6, u7, u8, u9, u10, u11, u12] := by
  have h0 : Cs (w.setCell ⟨b, 0, none⟩ u0) b U #[u0, x1, x2, x3, x4, x5, x6, x7, x8, x9, x10, x11, x12] := h.set 0 u0
  have h1 : Cs ((w.setCell ⟨b, 0, none⟩ u0).setCell ⟨b, 1, none⟩ u1) b U #[u0, u1, x2, x3, x4, x5, x6, x7, x8, x9, x10, x11, x12] := h0.set 1 u1
  have h2 : Cs (((w.setCell ⟨b, 0, none⟩ u0).setCell ⟨b, 1, none⟩ u1).setCell ⟨b, 2, none⟩ u2) b U #[u0, u1, u2, x3, x4, x5, x6, x7, x8, x9, x10, x11, x12] := h1.set 2 u2
  have h3 : Cs ((((w.setCell ⟨b, 0, none⟩ u0).setCell ⟨b, 1, none⟩ u1).setCell ⟨b, 2, none⟩ u2).setCell ⟨b, 3, none⟩ u3) b U #[u0, u1, u2, u3, x4, x5, x6, x7, x8, x9, x10, x11, x12] := h2.set 3 u3
  have h4 : Cs (((((w.setCell ⟨b, 0, none⟩ u0).setCell ⟨b, 1, none⟩ u1).setCell ⟨b, 2, none⟩ u2).setCell ⟨b, 3, none⟩ u3).setCell ⟨b, 4, none⟩ u4) b U #[u0, u1, u2, u3, u4, x5, x6, x7, x8, x9, x10, x11, x12] := h3.set 4 u4
  have h5 : Cs ((((((w.setCell ⟨b, 0, none⟩ u0).setCell ⟨b, 1, none⟩ u1).setCell ⟨b, 2, none⟩ u2).setCell ⟨b, 3, none⟩ u3).setCell ⟨b, 4, none⟩ u4).setCell ⟨b, 5, none⟩ u5) b U #[u0, u1, u2, u3, u4, u5, x6, x7, x8, x9, x10, x11, x12] := h4.set 5 u5
  have h6 : Cs (((((((w.setCell ⟨b, 0, none⟩ u0).setCell ⟨b, 1, none⟩ u1).setCell ⟨b, 2, none⟩ u2).setCell ⟨b, 3, none⟩ u3).setCell ⟨b, 4, none⟩ u4).setCell ⟨b, 5, none⟩ u5).setCell ⟨b, 6, none⟩ u6) b U #[u0, u1, u2, u3, u4, u5, u6, x7, x8, x9, x10, x11, x12] := h5.set 6 u6
  have h7 : Cs ((((((((w.setCell ⟨b, 0, none⟩ u0).setCell ⟨b, 1, none⟩ u1).setCell ⟨b, 2, none⟩ u2).setCell ⟨b, 3, none⟩ u3).setCell ⟨b, 4, none⟩ u4).setCell ⟨b, 5, none⟩ u5).setCell ⟨b, 6, none⟩ u6).setCell ⟨b, 7, none⟩ u7) b U #[u0, u1, u2, u3, u4, u5, u6, u7, x8, x9, x10, x11, x12] := h6.set 7 u7
  have h8 : Cs (((((((((w.setCell ⟨b, 0, none⟩ u0).setCell ⟨b, 1, none⟩ u1).setCell ⟨b, 2, none⟩ u2).setCell ⟨b, 3, none⟩ u3).setCell ⟨b, 4, none⟩ u4).setCell ⟨b, 5, none⟩ u5).setCell ⟨b, 6, none⟩ u6).setCell ⟨b, 7, none⟩ u7).setCell ⟨b, 8, none⟩ u8) b U #[u0, u1, u2, u3, u4, u5, u6, u7, u8, x9, x10, x11, x12] := h7.set 8 u8
  have h9 : Cs ((((((((((w.setCell ⟨b, 0, none⟩ u0).setCell ⟨b, 1, none⟩ u1).setCell ⟨b, 2, none⟩ u2).setCell ⟨b, 3, none⟩ u3).setCell ⟨b, 4, none⟩ u4).setCell ⟨b, 5, none⟩ u5).setCell ⟨b, 6, none⟩ u6).setCell ⟨b, 7, none⟩ u7).setCell ⟨b, 8, none⟩ u8).setCell ⟨b, 9, none⟩ u9) b U #[u0, u1, u2, u3, u4, u5, u6, u7, u8, u9, x10, x11, x12] := h8.set 9 u9
  have h10 : Cs (((((((((((w.setCell ⟨b, 0, none⟩ u0).setCell ⟨b, 1, none⟩ u1).setCell ⟨b, 2, none⟩ u2).setCell ⟨b, 3, none⟩ u3).setCell ⟨b, 4, none⟩ u4).setCell ⟨b, 5, none⟩ u5).setCell ⟨b, 6, none⟩ u6).setCell ⟨b, 7, none⟩ u7).setCell ⟨b, 8, none⟩ u8).setCell ⟨b, 9, none⟩ u9).setCell ⟨b, 10, none⟩ u10) b U #[u0, u1, u2, u3, u4, u5, u6, u7, u8, u9, u10, x11, x12] := h9.set 10 u10
  have h11 : Cs ((((((((((((w.setCell ⟨b, 0, none⟩ u0).setCell ⟨b, 1, none⟩ u1).setCell ⟨b, 2, none⟩ u2).setCell ⟨b, 3, none⟩ u3).setCell ⟨b, 4, none⟩ u4).setCell ⟨b, 5, none⟩ u5).setCell ⟨b, 6, none⟩ u6).setCell ⟨b, 7, none⟩ u7).setCell ⟨b, 8, none⟩ u8).setCell ⟨b, 9, none⟩ u9).setCell ⟨b, 10, none⟩ u10).setCell ⟨b, 11, none⟩ u11) b U #[u0, u1, u2, u3, u4, u5, u6, u7, u8, u9, u10, u11, x12] := h10.set 11 u11
  have h12 : Cs (((((((((((((w.setCell ⟨b, 0, none⟩ u0).setCell ⟨b, 1, none⟩ u1).setCell ⟨b, 2, none⟩ u2).setCell ⟨b, 3, none⟩ u3).setCell ⟨b, 4, none⟩ u4).setCell ⟨b, 5, none⟩ u5).setCell ⟨b, 6, none⟩ u6).setCell ⟨b, 7, none⟩ u7).setCell ⟨b, 8, none⟩ u8).setCell ⟨b, 9, none⟩ u9).setCell ⟨b, 10, none⟩ u10).setCell ⟨b, 11, none⟩ u11).setCell ⟨b, 12, none⟩ u12) b U #[u0, u1, u2, u3, u4, u5, u6, u7, u8, u9, u10, u11, u12] := h11.set 12 u12
  exact h12
/-- thirteen cells stored -/
theorem At13.put {U : TypeId} {cs : Array Value} (h : Cs w b U cs) (hn : cs.size = 13) (a : Nat) (m : Int) (d : Nat) (T : Nat → St) :
    Cs (((((((((((((w.setCell ⟨b, 0, none⟩ (.int .u64 a)).setCell ⟨b, 1, none⟩ (.int .i64 m)).setCell ⟨b, 2, none⟩ (.int .u64 d)).setCell ⟨b, 3, none⟩ (.int .i64 (T 0).1)).setCell ⟨b, 4, none⟩ (.int .i64 (T 0).2)).setCell ⟨b, 5, none⟩ (.int .i64 (T 1).1)).setCell ⟨b, 6, none⟩ (.int .i64 (T 1).2)).setCell ⟨b, 7, none⟩ (.int .i64 (T 2).1)).setCell ⟨b, 8, none⟩ (.int .i64 (T 2).2)).setCell ⟨b, 9, none⟩ (.int .i64 (T 3).1)).setCell ⟨b, 10, none⟩ (.int .i64 (T 3).2)).setCell ⟨b, 11, none⟩ (.int .i64 (T 4).1)).setCell ⟨b, 12, none⟩ (.int .i64 (T 4).2)) b U (grC a m d T) := by
  obtain ⟨x⟩ := cs
  simp only [List.size_toArray] at hn
  match x, hn, h with
  | [x0, x1, x2, x3, x4, x5, x6, x7, x8, x9, x10, x11, x12], _, h => exact h.set13 (.int .u64 a) (.int .i64 m) (.int .u64 d) (.int .i64 (T 0).1) (.int .i64 (T 0).2) (.int .i64 (T 1).1) (.int .i64 (T 1).2) (.int .i64 (T 2).1) (.int .i64 (T 2).2) (.int .i64 (T 3).1) (.int .i64 (T 3).2) (.int .i64 (T 4).1) (.int .i64 (T 4).2)
end

theorem below13 {B b : Nat} {v w : World} {u0 u1 u2 u3 u4 u5 u6 u7 u8 u9 u10 u11 u12 : Value} (h : Below B v w) (hb : B ≤ b) :
    Below B v (((((((((((((w.setCell ⟨b, 0, none⟩ u0).setCell ⟨b, 1, none⟩ u1).setCell ⟨b, 2, none⟩ u2).setCell ⟨b, 3, none⟩ u3).setCell ⟨b, 4, none⟩ u4).setCell ⟨b, 5, none⟩ u5).setCell ⟨b, 6, none⟩ u6).setCell ⟨b, 7, none⟩ u7).setCell ⟨b, 8, none⟩ u8).setCell ⟨b, 9, none⟩ u9).setCell ⟨b, 10, none⟩ u10).setCell ⟨b, 11, none⟩ u11).setCell ⟨b, 12, none⟩ u12) :=
  ((((((((((((h.setCell (p := ⟨b, 0, none⟩) hb _).setCell (p := ⟨b, 1, none⟩) hb _).setCell (p := ⟨b, 2, none⟩) hb _).setCell (p := ⟨b, 3, none⟩) hb _).setCell (p := ⟨b, 4, none⟩) hb _).setCell (p := ⟨b, 5, none⟩) hb _).setCell (p := ⟨b, 6, none⟩) hb _).setCell (p := ⟨b, 7, none⟩) hb _).setCell (p := ⟨b, 8, none⟩) hb _).setCell (p := ⟨b, 9, none⟩) hb _).setCell (p := ⟨b, 10, none⟩) hb _).setCell (p := ⟨b, 11, none⟩) hb _).setCell (p := ⟨b, 12, none⟩) hb _
/-- the world behind a store of a whole round -/
theorem fin13 {B b : Nat} {v w : World} {U : TypeId} {cs : Array Value} (h : Cs w b U cs) (hn : cs.size = 13) (hB : Below B v w) (hb : B ≤ b) (a : Nat) (m : Int) (d : Nat) (T : Nat → St) :
    ∃ W, (((((((((((((w.setCell ⟨b, 0, none⟩ (.int .u64 (a : Int))).setCell ⟨b, 1, none⟩ (.int .i64 m)).setCell ⟨b, 2, none⟩ (.int .u64 (d : Int))).setCell ⟨b, 3, none⟩ (.int .i64 (T 0).1)).setCell ⟨b, 4, none⟩ (.int .i64 (T 0).2)).setCell ⟨b, 5, none⟩ (.int .i64 (T 1).1)).setCell ⟨b, 6, none⟩ (.int .i64 (T 1).2)).setCell ⟨b, 7, none⟩ (.int .i64 (T 2).1)).setCell ⟨b, 8, none⟩ (.int .i64 (T 2).2)).setCell ⟨b, 9, none⟩ (.int .i64 (T 3).1)).setCell ⟨b, 10, none⟩ (.int .i64 (T 3).2)).setCell ⟨b, 11, none⟩ (.int .i64 (T 4).1)).setCell ⟨b, 12, none⟩ (.int .i64 (T 4).2)) = W ∧ Cs W b U (grC a m d T) ∧ Below B v W ∧ (∀ S, S b → Kp S w W) := by
  refine ⟨_, rfl, At13.put h hn a m d T, below13 hB hb, fun S hS => ?_⟩
  exact (((((((((((((Kp.refl S w).setCell (.inr hS) _).setCell (.inr hS) _).setCell (.inr hS) _).setCell (.inr hS) _).setCell (.inr hS) _).setCell (.inr hS) _).setCell (.inr hS) _).setCell (.inr hS) _).setCell (.inr hS) _).setCell (.inr hS) _).setCell (.inr hS) _).setCell (.inr hS) _).setCell (.inr hS) _
end Go.Proofs.Ytccggcdjajehnaa
