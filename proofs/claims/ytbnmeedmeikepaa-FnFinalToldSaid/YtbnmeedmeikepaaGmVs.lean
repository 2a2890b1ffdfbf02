/-
  Contract of the model's GroupPropose. No condition but lengths below 2^40.
-/
import Derived.Test.YtbnmeedmeikepaaGmV
namespace Go.Proofs.Ytbnmeedmeikepaa
open Go.RowKit
set_option linter.unusedVariables false
set_option linter.unusedSimpArgs false

set_option maxRecDepth 100000 in
set_option maxHeartbeats 8000000 in
theorem GroupPropose_spec {n1 c1 n2 c2 : Nat} {A1 A2 : Option Addr} {P D P' D' : List En} {id ck m id' ck' t' k' : Int} {b' : Bool} (hR : prR ⟨id, ck, P, D⟩ m = (⟨id', ck', P', D'⟩, (t', k'), b')) (w : World) (hr : RdG w A1 n1 c1 A2 n2 c2 P D) (hN : n1 + 1 < 1099511627776) :
    Calls Try.prog 8 #[gpV id ck (.slice A1 n1 c1) (.slice A2 n2 c2), .int .i64 m] w (PrPost id' ck' t' k' b' P' D' w) := by
  have hX0 : Hid (PrB w (((w.alloc (.cells #[.int .i64 id, .int .i64 ck, .slice A1 n1 c1, .slice A2 n2 c2] 25)).alloc (.cells #[.int .i64 0, .int .i64 0, .slice none 0 0, .slice none 0 0] 25)).alloc (.cells #[.int .i64 0, .int .i64 0] 29)) #[.int .i64 id, .int .i64 ck, .slice A1 n1 c1, .slice A2 n2 c2]) := hid
    ⟨((Cs.new w _ _).alloc _).alloc _, (Cs.new' _ _ _ (by simp)).alloc _, Cs.new' _ _ _ (by simp), below3 w _ _ _⟩
  have hr0 := hid (hr.below hX0.out.2.2.2)
  have hR' := hid hR
  clear hR hr
  cases hv : vdB ⟨id, ck, P, D⟩ with
  | false =>
    obtain ⟨rfl, rfl, rfl, rfl, rfl, rfl, rfl⟩ : id' = 0 ∧ ck' = 0 ∧ P' = [] ∧ D' = [] ∧ t' = 0 ∧ k' = 0 ∧ b' = false := by
      have := hR'.out
      unfold prR at this
      rw [hv] at this
      simp only [Bool.false_and, Bool.false_eq_true, if_false, gp0, Prod.mk.injEq, Gp.mk.injEq] at this
      exact ⟨this.1.1.symm, this.1.2.1.symm, this.1.2.2.1.symm, this.1.2.2.2.symm, this.2.1.1.symm, this.2.1.2.symm, this.2.2.symm⟩
    have hv := hid hv
    go_enter Try.func8, Try.ntmps8
    go_wp2_with fail
    refine (GroupValidS_as hv.out _ hr0.out).mono ?_
    rintro e w1 ⟨rfl, hb1⟩
    have hX1 := hid (hX0.out.step hb1)
    obtain ⟨r0, r1, r2, r3⟩ := hX1.out.2.1.four
    obtain ⟨u0, u1, u2, u3⟩ := hX1.out.2.1.free4
    obtain ⟨s0, s1, s2, s3⟩ := hX1.out.2.2.1.two
    have hz1 := hX1.out.2.2.1.lt
    clear hb1
    go_wp2
    refine bodyPost_ret (v := .tuple #[gpV 0 0 (.slice none 0 0) (.slice none 0 0), two 0 0, .bool false]) (by simp [results, Try.results8, go_sem, r0, r1, r2, r3, s0, s1]) rfl ⟨none, 0, none, 0, rfl, own_nil _ _, ?_⟩
    exact hX1.out.2.2.2.trans ((((Kp.refl (Hd w) w1).set4 (hd1 w) _ _ _ _).set2 (hd2 w) _ _).base hX1.out.2.2.2.size (fun i h => h.1))
  | true =>
    cases hM : msB m with
    | false =>
      obtain ⟨rfl, rfl, rfl, rfl, rfl, rfl, rfl⟩ : id' = 0 ∧ ck' = 0 ∧ P' = [] ∧ D' = [] ∧ t' = 0 ∧ k' = 0 ∧ b' = false := by
        have := hR'.out
        unfold prR at this
        rw [hv, hM] at this
        simp only [Bool.and_false, Bool.false_eq_true, if_false, gp0, Prod.mk.injEq, Gp.mk.injEq] at this
        exact ⟨this.1.1.symm, this.1.2.1.symm, this.1.2.2.1.symm, this.1.2.2.2.symm, this.2.1.1.symm, this.2.1.2.symm, this.2.2.symm⟩
      have hv := hid hv
      have hM := hid hM
      go_enter Try.func8, Try.ntmps8
      go_wp2_with fail
      refine (GroupValidS_as hv.out _ hr0.out).mono ?_
      rintro e w1 ⟨rfl, hb1⟩
      have hX1 := hid (hX0.out.step hb1)
      obtain ⟨r0, r1, r2, r3⟩ := hX1.out.2.1.four
      obtain ⟨u0, u1, u2, u3⟩ := hX1.out.2.1.free4
      obtain ⟨s0, s1, s2, s3⟩ := hX1.out.2.2.1.two
      have hz1 := hX1.out.2.2.1.lt
      clear hb1
      go_wp2_with fail
      refine (l11Message_as hM.out _).mono ?_
      rintro e w2 ⟨rfl, rfl⟩
      go_wp2
      refine bodyPost_ret (v := .tuple #[gpV 0 0 (.slice none 0 0) (.slice none 0 0), two 0 0, .bool false]) (by simp [results, Try.results8, go_sem, r0, r1, r2, r3, s0, s1]) rfl ⟨none, 0, none, 0, rfl, own_nil _ _, ?_⟩
      exact hX1.out.2.2.2.trans ((((Kp.refl (Hd w) w1).set4 (hd1 w) _ _ _ _).set2 (hd2 w) _ _).base hX1.out.2.2.2.size (fun i h => h.1))
    | true =>
      have hpr : Hid (prA ⟨id, ck, P, D⟩ m = (⟨id', ck', P', D'⟩, (t', k'), b')) := hid (by
        have := hR'.out
        unfold prR at this
        rw [hv, hM] at this
        exact this)
      have hck0 : 0 ≤ ck := (vdB_true.1 hv).2.1
      have hv := hid hv
      have hM := hid hM
      go_enter Try.func8, Try.ntmps8
      go_wp2_with fail
      refine (GroupValidS_as hv.out _ hr0.out).mono ?_
      rintro e w1 ⟨rfl, hb1⟩
      have hX1 := hid (hX0.out.step hb1)
      have hr1 := hid (hr0.out.below hb1)
      obtain ⟨q0, q1, q2, q3⟩ := hX1.out.1.four
      clear hb1
      go_wp2_with fail
      refine (l11Message_as hM.out _).mono ?_
      rintro e w2 ⟨rfl, rfl⟩
      go_wp2_with fail
      refine (l11Propose_as hpr.out _ hr1.out hN hck0).mono ?_
      rintro e w2 ⟨B1, d1, B2, d2, rfl, ho2, hb2⟩
      have hX2 := hid (hX1.out.step hb2)
      have hz1 : w.heap.size + 1 + 1 < w1.heap.size := hX1.out.2.2.1.lt
      have hO2 := hid ho2
      obtain ⟨r0, r1, r2, r3⟩ := hX2.out.2.1.four
      obtain ⟨u0, u1, u2, u3⟩ := hX2.out.2.1.free4
      obtain ⟨s0, s1, s2, s3⟩ := hX2.out.2.2.1.two
      have hfk := hid (((Kp.refl (Hd w) w2).set4 (hd1 w) (.int .i64 id') (.int .i64 ck') (.slice B1 P'.length d1) (.slice B2 D'.length d2)).set2 (hd2 w) (.int .i64 t') (.int .i64 k'))
      have hfo := hid ((hO2.out.kp hfk.out (fun b hb h => by have h8 := h.2; omega)).more (show w.heap.size ≤ w1.heap.size by omega))
      have hfb := hid (hX2.out.2.2.2.trans (hfk.out.base hX2.out.2.2.2.size (fun i h => h.1)))
      clear hb2 ho2 q0 q1 q2 q3
      go_wp2
      refine bodyPost_ret (v := .tuple #[gpV id' ck' (.slice B1 P'.length d1) (.slice B2 D'.length d2), two t' k', .bool b']) (by simp [results, Try.results8, go_sem, r0, r1, r2, r3, s0, s1]) rfl ⟨B1, d1, B2, d2, rfl, hfo.out, hfb.out⟩
end Go.Proofs.Ytbnmeedmeikepaa
