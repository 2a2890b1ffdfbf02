/-
  Contracts of the copies of a group: the program's copied, the model's l11Copy. No condition but lengths below 2^40.
-/
import Derived.Test.YtbnmeedmeikepaaGmPa
import Derived.Deep.DeepCutAuto
namespace Go.Proofs.Ytbnmeedmeikepaa
open Go.RowKit
set_option linter.unusedVariables false
set_option linter.unusedSimpArgs false

/-- a group of the call's own: two lists in two blocks -/
structure OwG (w : World) (lo : Nat) (A1 : Option Addr) (n1 c1 : Nat) (A2 : Option Addr) (n2 c2 : Nat) (P D : List En) : Prop where
  op : OwE w lo (.slice A1 n1 c1) P
  od : OwE w lo (.slice A2 n2 c2) D
  l1 : P.length = n1
  l2 : D.length = n2
  ne : ∀ b, (Value.slice A1 n1 c1).ownBlock = some b → (Value.slice A2 n2 c2).ownBlock ≠ some b

theorem OwE.cap {w : World} {B n c : Nat} {A : Option Addr} {zs : List En} (h : OwE w B (.slice A n c) zs) (hl : zs.length = n) : n ≤ c ∧ c ≤ 9223372036854775807 := by
  obtain ⟨A', c', e, _, h1, h2⟩ := h.form
  injection e with e1 e2 e3
  subst e3
  rw [hl] at h1
  exact ⟨h1, h2⟩
section
variable {w w' : World} {lo lo' n1 c1 n2 c2 : Nat} {A1 A2 : Option Addr} {P D : List En}

theorem OwG.rdg (h : OwG w lo A1 n1 c1 A2 n2 c2 P D) (h1 : n1 < 1099511627776) (h2 : n2 < 1099511627776) : RdG w A1 n1 c1 A2 n2 c2 P D :=
  ⟨h.op.rd h.l1, h.od.rd h.l2, h1, h2, (h.op.cap h.l1).1, (h.od.cap h.l2).1, (h.op.cap h.l1).2, (h.od.cap h.l2).2⟩

theorem OwG.below (h : OwG w lo A1 n1 c1 A2 n2 c2 P D) (hb : Below w.heap.size w w') : OwG w' lo A1 n1 c1 A2 n2 c2 P D := ⟨h.op.below hb, h.od.below hb, h.l1, h.l2, h.ne⟩

theorem OwG.more (h : OwG w lo A1 n1 c1 A2 n2 c2 P D) (hl : lo' ≤ lo) : OwG w lo' A1 n1 c1 A2 n2 c2 P D := ⟨h.op.more hl, h.od.more hl, h.l1, h.l2, h.ne⟩
end

theorem OwE.lit0 (w : World) {b : Nat} (h : w.heap.size = b) : OwE (w.alloc (.cells #[] 34)) b (.slice (some ⟨b, 0, none⟩) 0 0) [] := by
  subst h; exact OwE.empty_lit w (Nat.le_refl _)

theorem OwE.setFar {w : World} {B : Nat} {v : Value} {zs : List En} (h : OwE w B v zs) {p : Addr} (hp : v.ownBlock ≠ some p.block) (u : Value) : OwE (w.setCell p u) B v zs :=
  h.of_block fun g hg => Below.heap_setCell w p u g (fun e => hp (by rw [hg, e]))

theorem OwE.lt_of {w : World} {b : Nat} {v : Value} {zs : List En} (_ : OwE w b v zs) {W : World} (hz : W.heap.size = b) (hs : (W.alloc (.cells #[] 34)).heap.size ≤ w.heap.size) : b < w.heap.size := by
  rw [World.size_alloc, hz] at hs; omega

def CopyPost (id ck : Int) (P D : List En) (w : World) (e : Ending) (w' : World) : Prop :=
  ∃ (A1 : Option Addr) (c1 : Nat) (A2 : Option Addr) (c2 : Nat), e = .returned (gpV id ck (.slice A1 P.length c1) (.slice A2 D.length c2)) ∧ OwG w' w.heap.size A1 P.length c1 A2 D.length c2 P D ∧ Below w.heap.size w w'

set_option maxHeartbeats 4000000 in
theorem copied_any {n1 c1 n2 c2 : Nat} {A1 A2 : Option Addr} {P D : List En} (id ck : Int) (w : World) (hr : RdG w A1 n1 c1 A2 n2 c2 P D) :
    Calls Try.prog 25 #[gpV id ck (.slice A1 n1 c1) (.slice A2 n2 c2)] w (CopyPost id ck P D w) := by
  obtain ⟨W0, hW0⟩ : ∃ W0, ((w.alloc (.cells #[.int .i64 id, .int .i64 ck, .slice A1 n1 c1, .slice A2 n2 c2] 25)).alloc (.cells #[.int .i64 0, .int .i64 0, .slice none 0 0, .slice none 0 0] 25)) = W0 := ⟨_, rfl⟩
  have hb0 : Below w.heap.size w W0 := by rw [← hW0]; exact below2 w _ _
  have hz0 : W0.heap.size = w.heap.size + 1 + 1 := by rw [← hW0]; simp
  have hG0 : Cs W0 w.heap.size 25 #[.int .i64 id, .int .i64 ck, .slice A1 n1 c1, .slice A2 n2 c2] := by rw [← hW0]; exact (Cs.new w _ _).alloc _
  have hR0 : Cs W0 (w.heap.size + 1) 25 #[.int .i64 0, .int .i64 0, .slice none 0 0, .slice none 0 0] := by rw [← hW0]; exact Cs.new' _ _ _ (by simp)
  have hl1 := hid hr.rp.len
  have hl2 := hid hr.rd.len
  have hh1 := hr.h1
  have hh2 := hr.h2
  have hr' := hid hr
  have hG1 := hid (hG0.alloc (.cells #[] 34))
  have hR1 := hid (hR0.alloc (.cells #[] 34))
  have hO1 := hid (OwE.lit0 W0 hz0)
  have hP1 := hid (hr.rp.below (hb0.trans ((below1 W0 (.cells #[] 34)).mono hb0.size)))
  have hb1 := hid (hb0.trans ((below1 W0 (.cells #[] 34)).mono hb0.size))
  have hz0' := hid hz0
  obtain ⟨q0, q1, q2, q3⟩ := hG0.four
  have hlt0 : w.heap.size < W0.heap.size := by omega
  clear hr hz0 hb0 hG0 hR0 q0 q1 q2 q3 hlt0
  subst hW0
  go_enter Try.func25, Try.ntmps25
  go_upto_region 2 with (at_builtin; refine wpList_appE2 rfl und_en (.tmp 3) (.tmp 5) rfl (B := w.heap.size + 1 + 1) (Br := w.heap.size) (v := .slice (some ⟨w.heap.size + 1 + 1, 0, none⟩) 0 0) (zs := []) (ys := P) rfl rfl hO1.out hP1.out (by simp) (by simp; omega) ?_; intro v1 w1 ho1 hg1 hv1; rw [List.nil_append] at ho1; obtain ⟨A1', c1', rfl, _⟩ := ho1.form; have hG2 := hid (hG1.out.kp ((Kp.refl (fun k => k = w.heap.size + 1 + 1) _).grown hg1 (fun k hk => .inr (by injection hk with hk; exact hk.symm))) (by omega)); have hR2 := hid (hR1.out.kp ((Kp.refl (fun k => k = w.heap.size + 1 + 1) _).grown hg1 (fun k hk => .inr (by injection hk with hk; exact hk.symm))) (by omega)); have hb2 := hid (hb1.out.grown hg1 hb1.out.size (fun k hk => by have hk2 : w.heap.size + 1 + 1 = k := (by injection hk); omega)); obtain ⟨q0, q1, q2, q3⟩ := hG2.out.four; have qf := hG2.out.frozen 2; have hO2 := hid ho1; have hgs := hg1.size; clear ho1 hg1 hv1)
  have hz1 : w.heap.size + 1 + 1 < w1.heap.size := by simp at hgs; omega
  have hz1a : w.heap.size < w1.heap.size := by omega
  have hz1b : w.heap.size + 1 < w1.heap.size := by omega
  have hG3 : Hid (Cs (w1.setCell ⟨w.heap.size, 2, none⟩ (.slice A1' P.length c1')) w.heap.size 25 #[.int .i64 id, .int .i64 ck, .slice A1' P.length c1', .slice A2 n2 c2]) := hid (hG2.out.set 2 (.slice A1' P.length c1'))
  have hR3 := hid (hR2.out.far (p := ⟨w.heap.size, 2, none⟩) (by simp) (.slice A1' P.length c1'))
  have hO3 := hid (hO2.out.setFar (p := ⟨w.heap.size, 2, none⟩) (fun h => by have := (hO2.out.lt _ h).1; simp at this; omega) (.slice A1' P.length c1'))
  have hb3 := hid (hb2.out.setCell (p := ⟨w.heap.size, 2, none⟩) (Nat.le_refl _) (.slice A1' P.length c1'))
  have hz3 : (w1.setCell ⟨w.heap.size, 2, none⟩ (.slice A1' P.length c1')).heap.size = w1.heap.size := by simp [World.setCell]
  have hE3 := hid (OwE.lit0 _ hz3)
  have hG4 := hid (hG3.out.alloc (.cells #[] 34))
  have hR4 := hid (hR3.out.alloc (.cells #[] 34))
  have hO4 := hid (hO3.out.below (below1 _ (.cells #[] 34)))
  have hb4 := hid (hb3.out.alloc hb3.out.size (.cells #[] 34))
  have hD4 := hid (hr'.out.rd.below hb4.out)
  have hz3' := hid hz3
  clear hz3 qf hG2 hR2 hO2 hb2 hG3 hR3 hb3 hgs
  go_upto_region 3 with (at_builtin; refine wpList_appE2 rfl und_en (.tmp 8) (.tmp 10) rfl (B := w1.heap.size) (Br := w.heap.size) (v := .slice (some ⟨w1.heap.size, 0, none⟩) 0 0) (zs := []) (ys := D) rfl rfl hE3.out hD4.out (by simp) (by simp; omega) ?_; intro v2 w2 ho2 hg2 hv2; rw [List.nil_append] at ho2; obtain ⟨A2', c2', rfl, _⟩ := ho2.form; have hkp := hid ((Kp.refl (fun k => k = w1.heap.size) _).grown hg2 (fun k hk => .inr (by injection hk with hk; exact hk.symm))); have hG5 := hid (hG4.out.kp hkp.out (by omega)); have hR5 := hid (hR4.out.kp hkp.out (by omega)); have hO5 := hid (hkp.out.own hO4.out (fun k hk => by have := (hO3.out.lt k hk).2; rw [hz3'.out] at this; omega)); have hb5 := hid (hb4.out.grown hg2 hb4.out.size (fun k hk => by have hk2 : w1.heap.size = k := (by injection hk); omega)); clear q0 q1 q2 q3; obtain ⟨q0, q1, q2, q3⟩ := hG5.out.four; have qf := hG5.out.frozen 3; have hO6 := hid ho2; have hgs := hg2.size; clear ho2 hg2 hv2)
  have hz5 : w1.heap.size < w2.heap.size := (hO6.out.lt_of hz3'.out hgs)
  have hG6 := hid (hG5.out.set 3 (.slice A2' D.length c2'))
  have hR6 := hid (hR5.out.far (p := ⟨w.heap.size, 3, none⟩) (by simp) (.slice A2' D.length c2'))
  obtain ⟨r0, r1, r2, r3⟩ := hR5.out.four
  obtain ⟨u0, u1, u2, u3⟩ := hR5.out.free4
  have hfin : Hid (OwG (((((w2.setCell ⟨w.heap.size, 3, none⟩ (.slice A2' D.length c2')).setCell ⟨w.heap.size + 1, 0, none⟩ (.int .i64 id)).setCell ⟨w.heap.size + 1, 1, none⟩ (.int .i64 ck)).setCell ⟨w.heap.size + 1, 2, none⟩ (.slice A1' P.length c1')).setCell ⟨w.heap.size + 1, 3, none⟩ (.slice A2' D.length c2')) w.heap.size A1' P.length c1' A2' D.length c2' P D ∧
      Below w.heap.size w (((((w2.setCell ⟨w.heap.size, 3, none⟩ (.slice A2' D.length c2')).setCell ⟨w.heap.size + 1, 0, none⟩ (.int .i64 id)).setCell ⟨w.heap.size + 1, 1, none⟩ (.int .i64 ck)).setCell ⟨w.heap.size + 1, 2, none⟩ (.slice A1' P.length c1')).setCell ⟨w.heap.size + 1, 3, none⟩ (.slice A2' D.length c2'))) := hid (by
    have n1 : ∀ p : Addr, p.block ≤ w.heap.size + 1 → (Value.slice A1' P.length c1').ownBlock ≠ some p.block := fun p hp h => by
      have := (hO5.out.lt _ h).1; omega
    have n2 : ∀ p : Addr, p.block ≤ w.heap.size + 1 → (Value.slice A2' D.length c2').ownBlock ≠ some p.block := fun p hp h => by
      have := (hO6.out.lt _ h).1; omega
    refine ⟨⟨?_, ?_, rfl, rfl, fun b h1 h2 => ?_⟩, ?_⟩
    · exact (((((hO5.out.setFar (n1 _ (by simp)) _).setFar (n1 _ (by simp)) _).setFar (n1 _ (by simp)) _).setFar (n1 _ (by simp)) _).setFar (n1 _ (by simp)) _).more (by omega)
    · exact (((((hO6.out.setFar (n2 _ (by simp)) _).setFar (n2 _ (by simp)) _).setFar (n2 _ (by simp)) _).setFar (n2 _ (by simp)) _).setFar (n2 _ (by simp)) _).more (by omega)
    · have e1 := (hO3.out.lt b h1).2
      rw [hz3'.out] at e1
      have e2 := (hO6.out.lt b h2).1
      omega
    · exact ((((hb5.out.setCell (Nat.le_refl _) _).setCell (Nat.le_succ _) _).setCell (Nat.le_succ _) _).setCell (Nat.le_succ _) _).setCell (Nat.le_succ _) _)
  clear hb5 hO5 hO6 hO3 hO4 hkp hgs
  go_wp2
  refine bodyPost_ret (v := gpV id ck (.slice A1' P.length c1') (.slice A2' D.length c2')) (by simp [results, Try.results25, go_sem, r0, r1, r2, r3, q0, q1, q2, q3]) rfl ⟨A1', c1', A2', c2', rfl, hfin.out.1, hfin.out.2⟩

set_option maxHeartbeats 4000000 in
theorem l11Copy_any {n1 c1 n2 c2 : Nat} {A1 A2 : Option Addr} {P D : List En} (id ck : Int) (w : World) (hr : RdG w A1 n1 c1 A2 n2 c2 P D) :
    Calls Try.prog 54 #[gpV id ck (.slice A1 n1 c1) (.slice A2 n2 c2)] w (CopyPost id ck P D w) := by
  obtain ⟨W0, hW0⟩ : ∃ W0, ((w.alloc (.cells #[.int .i64 id, .int .i64 ck, .slice A1 n1 c1, .slice A2 n2 c2] 25)).alloc (.cells #[.int .i64 0, .int .i64 0, .slice none 0 0, .slice none 0 0] 25)) = W0 := ⟨_, rfl⟩
  have hb0 : Below w.heap.size w W0 := by rw [← hW0]; exact below2 w _ _
  have hz0 : W0.heap.size = w.heap.size + 1 + 1 := by rw [← hW0]; simp
  have hG0 : Cs W0 w.heap.size 25 #[.int .i64 id, .int .i64 ck, .slice A1 n1 c1, .slice A2 n2 c2] := by rw [← hW0]; exact (Cs.new w _ _).alloc _
  have hR0 : Cs W0 (w.heap.size + 1) 25 #[.int .i64 0, .int .i64 0, .slice none 0 0, .slice none 0 0] := by rw [← hW0]; exact Cs.new' _ _ _ (by simp)
  have hl1 := hid hr.rp.len
  have hl2 := hid hr.rd.len
  have hh1 := hr.h1
  have hh2 := hr.h2
  have hr' := hid hr
  have hG1 := hid (hG0.alloc (.cells #[] 34))
  have hR1 := hid (hR0.alloc (.cells #[] 34))
  have hO1 := hid (OwE.lit0 W0 hz0)
  have hP1 := hid (hr.rp.below (hb0.trans ((below1 W0 (.cells #[] 34)).mono hb0.size)))
  have hb1 := hid (hb0.trans ((below1 W0 (.cells #[] 34)).mono hb0.size))
  have hz0' := hid hz0
  obtain ⟨q0, q1, q2, q3⟩ := hG0.four
  have hlt0 : w.heap.size < W0.heap.size := by omega
  clear hr hz0 hb0 hG0 hR0 q0 q1 q2 q3 hlt0
  subst hW0
  go_enter Try.func54, Try.ntmps54
  go_upto_region 2 with (at_builtin; refine wpList_appE2 rfl und_en (.tmp 3) (.tmp 5) rfl (B := w.heap.size + 1 + 1) (Br := w.heap.size) (v := .slice (some ⟨w.heap.size + 1 + 1, 0, none⟩) 0 0) (zs := []) (ys := P) rfl rfl hO1.out hP1.out (by simp) (by simp; omega) ?_; intro v1 w1 ho1 hg1 hv1; rw [List.nil_append] at ho1; obtain ⟨A1', c1', rfl, _⟩ := ho1.form; have hG2 := hid (hG1.out.kp ((Kp.refl (fun k => k = w.heap.size + 1 + 1) _).grown hg1 (fun k hk => .inr (by injection hk with hk; exact hk.symm))) (by omega)); have hR2 := hid (hR1.out.kp ((Kp.refl (fun k => k = w.heap.size + 1 + 1) _).grown hg1 (fun k hk => .inr (by injection hk with hk; exact hk.symm))) (by omega)); have hb2 := hid (hb1.out.grown hg1 hb1.out.size (fun k hk => by have hk2 : w.heap.size + 1 + 1 = k := (by injection hk); omega)); obtain ⟨q0, q1, q2, q3⟩ := hG2.out.four; have qf := hG2.out.frozen 2; have hO2 := hid ho1; have hgs := hg1.size; clear ho1 hg1 hv1)
  have hz1 : w.heap.size + 1 + 1 < w1.heap.size := by simp at hgs; omega
  have hz1a : w.heap.size < w1.heap.size := by omega
  have hz1b : w.heap.size + 1 < w1.heap.size := by omega
  have hG3 : Hid (Cs (w1.setCell ⟨w.heap.size, 2, none⟩ (.slice A1' P.length c1')) w.heap.size 25 #[.int .i64 id, .int .i64 ck, .slice A1' P.length c1', .slice A2 n2 c2]) := hid (hG2.out.set 2 (.slice A1' P.length c1'))
  have hR3 := hid (hR2.out.far (p := ⟨w.heap.size, 2, none⟩) (by simp) (.slice A1' P.length c1'))
  have hO3 := hid (hO2.out.setFar (p := ⟨w.heap.size, 2, none⟩) (fun h => by have := (hO2.out.lt _ h).1; simp at this; omega) (.slice A1' P.length c1'))
  have hb3 := hid (hb2.out.setCell (p := ⟨w.heap.size, 2, none⟩) (Nat.le_refl _) (.slice A1' P.length c1'))
  have hz3 : (w1.setCell ⟨w.heap.size, 2, none⟩ (.slice A1' P.length c1')).heap.size = w1.heap.size := by simp [World.setCell]
  have hE3 := hid (OwE.lit0 _ hz3)
  have hG4 := hid (hG3.out.alloc (.cells #[] 34))
  have hR4 := hid (hR3.out.alloc (.cells #[] 34))
  have hO4 := hid (hO3.out.below (below1 _ (.cells #[] 34)))
  have hb4 := hid (hb3.out.alloc hb3.out.size (.cells #[] 34))
  have hD4 := hid (hr'.out.rd.below hb4.out)
  have hz3' := hid hz3
  clear hz3 qf hG2 hR2 hO2 hb2 hG3 hR3 hb3 hgs
  go_upto_region 3 with (at_builtin; refine wpList_appE2 rfl und_en (.tmp 8) (.tmp 10) rfl (B := w1.heap.size) (Br := w.heap.size) (v := .slice (some ⟨w1.heap.size, 0, none⟩) 0 0) (zs := []) (ys := D) rfl rfl hE3.out hD4.out (by simp) (by simp; omega) ?_; intro v2 w2 ho2 hg2 hv2; rw [List.nil_append] at ho2; obtain ⟨A2', c2', rfl, _⟩ := ho2.form; have hkp := hid ((Kp.refl (fun k => k = w1.heap.size) _).grown hg2 (fun k hk => .inr (by injection hk with hk; exact hk.symm))); have hG5 := hid (hG4.out.kp hkp.out (by omega)); have hR5 := hid (hR4.out.kp hkp.out (by omega)); have hO5 := hid (hkp.out.own hO4.out (fun k hk => by have := (hO3.out.lt k hk).2; rw [hz3'.out] at this; omega)); have hb5 := hid (hb4.out.grown hg2 hb4.out.size (fun k hk => by have hk2 : w1.heap.size = k := (by injection hk); omega)); clear q0 q1 q2 q3; obtain ⟨q0, q1, q2, q3⟩ := hG5.out.four; have qf := hG5.out.frozen 3; have hO6 := hid ho2; have hgs := hg2.size; clear ho2 hg2 hv2)
  have hz5 : w1.heap.size < w2.heap.size := (hO6.out.lt_of hz3'.out hgs)
  have hG6 := hid (hG5.out.set 3 (.slice A2' D.length c2'))
  have hR6 := hid (hR5.out.far (p := ⟨w.heap.size, 3, none⟩) (by simp) (.slice A2' D.length c2'))
  obtain ⟨r0, r1, r2, r3⟩ := hR5.out.four
  obtain ⟨u0, u1, u2, u3⟩ := hR5.out.free4
  have hfin : Hid (OwG (((((w2.setCell ⟨w.heap.size, 3, none⟩ (.slice A2' D.length c2')).setCell ⟨w.heap.size + 1, 0, none⟩ (.int .i64 id)).setCell ⟨w.heap.size + 1, 1, none⟩ (.int .i64 ck)).setCell ⟨w.heap.size + 1, 2, none⟩ (.slice A1' P.length c1')).setCell ⟨w.heap.size + 1, 3, none⟩ (.slice A2' D.length c2')) w.heap.size A1' P.length c1' A2' D.length c2' P D ∧
      Below w.heap.size w (((((w2.setCell ⟨w.heap.size, 3, none⟩ (.slice A2' D.length c2')).setCell ⟨w.heap.size + 1, 0, none⟩ (.int .i64 id)).setCell ⟨w.heap.size + 1, 1, none⟩ (.int .i64 ck)).setCell ⟨w.heap.size + 1, 2, none⟩ (.slice A1' P.length c1')).setCell ⟨w.heap.size + 1, 3, none⟩ (.slice A2' D.length c2'))) := hid (by
    have n1 : ∀ p : Addr, p.block ≤ w.heap.size + 1 → (Value.slice A1' P.length c1').ownBlock ≠ some p.block := fun p hp h => by
      have := (hO5.out.lt _ h).1; omega
    have n2 : ∀ p : Addr, p.block ≤ w.heap.size + 1 → (Value.slice A2' D.length c2').ownBlock ≠ some p.block := fun p hp h => by
      have := (hO6.out.lt _ h).1; omega
    refine ⟨⟨?_, ?_, rfl, rfl, fun b h1 h2 => ?_⟩, ?_⟩
    · exact (((((hO5.out.setFar (n1 _ (by simp)) _).setFar (n1 _ (by simp)) _).setFar (n1 _ (by simp)) _).setFar (n1 _ (by simp)) _).setFar (n1 _ (by simp)) _).more (by omega)
    · exact (((((hO6.out.setFar (n2 _ (by simp)) _).setFar (n2 _ (by simp)) _).setFar (n2 _ (by simp)) _).setFar (n2 _ (by simp)) _).setFar (n2 _ (by simp)) _).more (by omega)
    · have e1 := (hO3.out.lt b h1).2
      rw [hz3'.out] at e1
      have e2 := (hO6.out.lt b h2).1
      omega
    · exact ((((hb5.out.setCell (Nat.le_refl _) _).setCell (Nat.le_succ _) _).setCell (Nat.le_succ _) _).setCell (Nat.le_succ _) _).setCell (Nat.le_succ _) _)
  clear hb5 hO5 hO6 hO3 hO4 hkp hgs
  go_wp2
  refine bodyPost_ret (v := gpV id ck (.slice A1' P.length c1') (.slice A2' D.length c2')) (by simp [results, Try.results54, go_sem, r0, r1, r2, r3, q0, q1, q2, q3]) rfl ⟨A1', c1', A2', c2', rfl, hfin.out.1, hfin.out.2⟩
end Go.Proofs.Ytbnmeedmeikepaa
