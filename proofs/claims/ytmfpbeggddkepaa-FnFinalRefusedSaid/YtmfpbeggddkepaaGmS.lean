/-
  Contracts of the readers of a group, of the program and of the model: l11Stamp, GroupStamp, GroupBlocked, GroupTrace, GroupNew. No condition but lengths below 2^40.
-/
import Derived.Test.YtmfpbeggddkepaaGmR
namespace Go.Proofs.Ytmfpbeggddkepaa
open Go.RowKit
set_option linter.unusedVariables false
set_option linter.unusedSimpArgs false

def hdM : List En → Int
  | [] => -1
  | e :: _ => e.1

theorem bl_yes {id ck : Int} {P D : List En} (h : vdB ⟨id, ck, P, D⟩ = true) : blR ⟨id, ck, P, D⟩ = hdM P := by
  unfold blR
  rw [if_pos h]
  cases P <;> rfl

theorem gbox (w : World) (id ck : Int) (p q : Value) (cs : Array Value) (T : TypeId) : Cs ((w.alloc (.cells #[.int .i64 id, .int .i64 ck, p, q] 25)).alloc (.cells cs T)) w.heap.size 25 #[.int .i64 id, .int .i64 ck, p, q] ∧ Cs ((w.alloc (.cells #[.int .i64 id, .int .i64 ck, p, q] 25)).alloc (.cells cs T)) (w.heap.size + 1) T cs :=
  ⟨(Cs.new w _ _).alloc _, Cs.new' _ _ _ (by simp)⟩

set_option maxHeartbeats 2000000 in
theorem l11Stamp_as {n1 c1 n2 c2 : Nat} {A1 A2 : Option Addr} {P D : List En} {id ck m m' t' k' : Int} {f' b' : Bool} (hst : stA ⟨id, ck, P, D⟩ m = ((m', (t', k'), f'), b')) (w : World) (hr : RdG w A1 n1 c1 A2 n2 c2 P D) :
    Calls Try.prog 61 #[gpV id ck (.slice A1 n1 c1) (.slice A2 n2 c2), .int .i64 m] w fun e w' => e = .returned (.tuple #[enV m' t' k' f', .bool b']) ∧ Below w.heap.size w w' := by
  have hB0 := hid (below2 w (.cells #[.int .i64 id, .int .i64 ck, .slice A1 n1 c1, .slice A2 n2 c2] 25) (.cells #[.int .i64 0, .int .i64 0, .int .i64 0, .bool false] 31))
  have hl1 := hid hr.rp.len
  have hl2 := hid hr.rd.len
  have hh1 := hr.h1
  have hh2 := hr.h2
  have hr0 := hid (hr.below hB0.out)
  have hst' := hid hst
  clear hst
  rcases pla_cases P m with ⟨k, x, p1, p2, p3, p4, p5, _⟩ | ⟨_, p2, p3⟩
  · have hx : x = (m', (t', k'), f') ∧ b' = true := by
      have h1 := hst'.out
      unfold stA at h1
      simp only at h1
      rw [if_pos (by rw [p2]; omega), p1, atE_get p4] at h1
      injection h1 with h1 h2
      exact ⟨h1, h2.symm⟩
    obtain ⟨rfl, rfl⟩ := hx
    have hkn : k < n1 := by rw [← hl1.out]; exact p3
    obtain ⟨b, off, m9, t9, g9, f9, rfl, hx9, hb, c0, c1', c2', c3⟩ := hr.rp.at_ hkn
    obtain ⟨rfl, rfl, rfl, rfl⟩ : m9 = m' ∧ t9 = t' ∧ g9 = k' ∧ f9 = f' := by
      have := hx9.out.symm.trans p4
      simp only [Option.some.injEq, Prod.mk.injEq] at this
      exact ⟨this.1, this.2.1.1, this.2.1.2, this.2.2⟩
    have hF := hid p2
    have k0 : (0 : Int) ≤ (k : Int) := by omega
    clear hr p1 p2 p3 p4 p5 hx9
    go_enter Try.func61, Try.ntmps61
    go_wp2_with fail
    refine (l11Find_as hF.out _ hr0.out.rp hh1).mono ?_
    rintro e w1 ⟨rfl, rfl⟩
    go_wp2
    refine bodyPost_ret (v := .tuple #[enV m9 t9 g9 f9, .bool true]) (by simp [results, Try.results61, go_sem]) rfl ⟨rfl, ?_⟩
    first
      | exact hB0.out
      | exact (((hB0.out.setCell (Nat.le_succ _) _).setCell (Nat.le_succ _) _).setCell (Nat.le_succ _) _).setCell (Nat.le_succ _) _
      | exact below2 w _ _
  · have hF := hid p2
    rcases pla_cases D m with ⟨k, x, q1, q2, q3, q4, q5, _⟩ | ⟨_, q2, q3⟩
    · have hx : x = (m', (t', k'), f') ∧ b' = true := by
        have h1 := hst'.out
        unfold stA at h1
        simp only at h1
        rw [if_neg (by rw [p2]; omega), if_pos (by rw [q2]; omega), q1, atE_get q4] at h1
        injection h1 with h1 h2
        exact ⟨h1, h2.symm⟩
      obtain ⟨rfl, rfl⟩ := hx
      have hkn : k < n2 := by rw [← hl2.out]; exact q3
      obtain ⟨b, off, m9, t9, g9, f9, rfl, hx9, hb, c0, c1', c2', c3⟩ := hr.rd.at_ hkn
      obtain ⟨rfl, rfl, rfl, rfl⟩ : m9 = m' ∧ t9 = t' ∧ g9 = k' ∧ f9 = f' := by
        have := hx9.out.symm.trans q4
        simp only [Option.some.injEq, Prod.mk.injEq] at this
        exact ⟨this.1, this.2.1.1, this.2.1.2, this.2.2⟩
      have hF2 := hid q2
      have k0 : (0 : Int) ≤ (k : Int) := by omega
      clear hr p2 p3 q1 q2 q3 q4 q5 hx9
      go_enter Try.func61, Try.ntmps61
      go_wp2_with fail
      refine (l11Find_as hF.out _ hr0.out.rp hh1).mono ?_
      rintro e w1 ⟨rfl, rfl⟩
      go_wp2_with fail
      refine (l11Find_as hF2.out _ hr0.out.rd hh2).mono ?_
      rintro e w1 ⟨rfl, rfl⟩
      go_wp2
      refine bodyPost_ret (v := .tuple #[enV m9 t9 g9 f9, .bool true]) (by simp [results, Try.results61, go_sem]) rfl ⟨rfl, ?_⟩
      first
        | exact hB0.out
        | exact (((hB0.out.setCell (Nat.le_succ _) _).setCell (Nat.le_succ _) _).setCell (Nat.le_succ _) _).setCell (Nat.le_succ _) _
        | exact below2 w _ _
    · have hx : ((m', (t', k'), f') : En) = en0 ∧ b' = false := by
        have h1 := hst'.out
        unfold stA at h1
        simp only at h1
        rw [if_neg (by rw [p2]; omega), if_neg (by rw [q2]; omega)] at h1
        injection h1 with h1 h2
        exact ⟨h1.symm, h2.symm⟩
      obtain ⟨rfl, rfl, rfl, rfl⟩ : m' = 0 ∧ t' = 0 ∧ k' = 0 ∧ f' = false := by
        have := hx.1
        simp only [en0, Prod.mk.injEq] at this
        exact ⟨this.1, this.2.1.1, this.2.1.2, this.2.2⟩
      obtain rfl := hx.2
      have hF2 := hid q2
      clear hr p2 p3 q2 q3 hx
      go_enter Try.func61, Try.ntmps61
      go_wp2_with fail
      refine (l11Find_as hF.out _ hr0.out.rp hh1).mono ?_
      rintro e w1 ⟨rfl, rfl⟩
      go_wp2_with fail
      refine (l11Find_as hF2.out _ hr0.out.rd hh2).mono ?_
      rintro e w1 ⟨rfl, rfl⟩
      go_wp2
      refine bodyPost_ret (v := .tuple #[enV 0 0 0 false, .bool false]) (by simp [results, Try.results61, go_sem]) rfl ⟨rfl, ?_⟩
      first
        | exact hB0.out
        | exact (((hB0.out.setCell (Nat.le_succ _) _).setCell (Nat.le_succ _) _).setCell (Nat.le_succ _) _).setCell (Nat.le_succ _) _
        | exact below2 w _ _

set_option maxHeartbeats 2000000 in
theorem GroupStamp_impl {n1 c1 n2 c2 : Nat} {A1 A2 : Option Addr} {P D : List En} {id ck m m' t' k' : Int} {f' b' : Bool} (hst : stR ⟨id, ck, P, D⟩ m = ((m', (t', k'), f'), b')) (w : World) (hr : RdG w A1 n1 c1 A2 n2 c2 P D) :
    Calls Try.prog 15 #[gpV id ck (.slice A1 n1 c1) (.slice A2 n2 c2), .int .i64 m] w fun e w' => e = .returned (.tuple #[enV m' t' k' f', .bool b']) ∧ Below w.heap.size w w' := by
  have hB0 := hid (below2 w (.cells #[.int .i64 id, .int .i64 ck, .slice A1 n1 c1, .slice A2 n2 c2] 25) (.cells #[.int .i64 0, .int .i64 0, .int .i64 0, .bool false] 31))
  have hG0 := hid (gbox w id ck (.slice A1 n1 c1) (.slice A2 n2 c2) #[.int .i64 0, .int .i64 0, .int .i64 0, .bool false] 31)
  have hr0 := hid (hr.below hB0.out)
  have hst' := hid hst
  clear hst hr
  cases hv : vdB ⟨id, ck, P, D⟩ with
  | false =>
    obtain ⟨rfl, rfl, rfl, rfl, rfl⟩ : m' = 0 ∧ t' = 0 ∧ k' = 0 ∧ f' = false ∧ b' = false := by
      have := hst'.out
      unfold stR at this
      rw [hv] at this
      simp only [Bool.false_eq_true, if_false, en0, Prod.mk.injEq] at this
      exact ⟨this.1.1.symm, this.1.2.1.1.symm, this.1.2.1.2.symm, this.1.2.2.symm, this.2.symm⟩
    have hv := hid hv
    go_enter Try.func15, Try.ntmps15
    go_wp2_with fail
    refine (GroupValidI_as hv.out _ hr0.out).mono ?_
    rintro e w1 ⟨rfl, hb1⟩
    have hB1 := hid (hB0.out.trans (hb1.mono (by simp; omega)))
    have hR1 := hid (hG0.out.2.step hb1)
    obtain ⟨r0, r1, r2, r3⟩ := hR1.out.four
    obtain ⟨u0, u1, u2, u3⟩ := hR1.out.free4
    clear hb1
    go_wp2
    refine bodyPost_ret (v := .tuple #[enV 0 0 0 false, .bool false]) (by simp [results, Try.results15, go_sem, r0, r1, r2, r3]) rfl ⟨rfl, ?_⟩
    exact (((hB1.out.setCell (Nat.le_succ _) _).setCell (Nat.le_succ _) _).setCell (Nat.le_succ _) _).setCell (Nat.le_succ _) _
  | true =>
    have hsa : Hid (stA ⟨id, ck, P, D⟩ m = ((m', (t', k'), f'), b')) := hid (by
      have := hst'.out
      unfold stR at this
      rw [hv] at this
      exact this)
    have hv := hid hv
    go_enter Try.func15, Try.ntmps15
    go_wp2_with fail
    refine (GroupValidI_as hv.out _ hr0.out).mono ?_
    rintro e w1 ⟨rfl, hb1⟩
    have hB1 := hid (hB0.out.trans (hb1.mono (by simp; omega)))
    have hG1 := hid (hG0.out.1.step hb1)
    have hR1 := hid (hG0.out.2.step hb1)
    have hr1 := hid (hr0.out.below hb1)
    obtain ⟨q0, q1, q2, q3⟩ := hG1.out.four
    clear hb1
    go_wp2_with fail
    refine (entry_as hsa.out _ hr1.out).mono ?_
    rintro e w2 ⟨rfl, hb2⟩
    have hB2 := hid (hB1.out.trans (hb2.mono hB1.out.size))
    have hR2 := hid (hR1.out.step hb2)
    obtain ⟨r0, r1, r2, r3⟩ := hR2.out.four
    obtain ⟨u0, u1, u2, u3⟩ := hR2.out.free4
    clear hb2 q0 q1 q2 q3
    go_wp2
    refine bodyPost_ret (v := .tuple #[enV m' t' k' f', .bool b']) (by simp [results, Try.results15, go_sem, r0, r1, r2, r3]) rfl ⟨rfl, ?_⟩
    exact (((hB2.out.setCell (Nat.le_succ _) _).setCell (Nat.le_succ _) _).setCell (Nat.le_succ _) _).setCell (Nat.le_succ _) _

set_option maxHeartbeats 2000000 in
theorem GroupStamp_spec {n1 c1 n2 c2 : Nat} {A1 A2 : Option Addr} {P D : List En} {id ck m m' t' k' : Int} {f' b' : Bool} (hst : stR ⟨id, ck, P, D⟩ m = ((m', (t', k'), f'), b')) (w : World) (hr : RdG w A1 n1 c1 A2 n2 c2 P D) :
    Calls Try.prog 32 #[gpV id ck (.slice A1 n1 c1) (.slice A2 n2 c2), .int .i64 m] w fun e w' => e = .returned (.tuple #[enV m' t' k' f', .bool b']) ∧ Below w.heap.size w w' := by
  have hB0 := hid (below2 w (.cells #[.int .i64 id, .int .i64 ck, .slice A1 n1 c1, .slice A2 n2 c2] 25) (.cells #[.int .i64 0, .int .i64 0, .int .i64 0, .bool false] 31))
  have hG0 := hid (gbox w id ck (.slice A1 n1 c1) (.slice A2 n2 c2) #[.int .i64 0, .int .i64 0, .int .i64 0, .bool false] 31)
  have hr0 := hid (hr.below hB0.out)
  have hst' := hid hst
  clear hst hr
  cases hv : vdB ⟨id, ck, P, D⟩ with
  | false =>
    obtain ⟨rfl, rfl, rfl, rfl, rfl⟩ : m' = 0 ∧ t' = 0 ∧ k' = 0 ∧ f' = false ∧ b' = false := by
      have := hst'.out
      unfold stR at this
      rw [hv] at this
      simp only [Bool.false_eq_true, if_false, en0, Prod.mk.injEq] at this
      exact ⟨this.1.1.symm, this.1.2.1.1.symm, this.1.2.1.2.symm, this.1.2.2.symm, this.2.symm⟩
    have hv := hid hv
    go_enter Try.func32, Try.ntmps32
    go_wp2_with fail
    refine (GroupValidS_as hv.out _ hr0.out).mono ?_
    rintro e w1 ⟨rfl, hb1⟩
    have hB1 := hid (hB0.out.trans (hb1.mono (by simp; omega)))
    have hR1 := hid (hG0.out.2.step hb1)
    obtain ⟨r0, r1, r2, r3⟩ := hR1.out.four
    obtain ⟨u0, u1, u2, u3⟩ := hR1.out.free4
    clear hb1
    go_wp2
    refine bodyPost_ret (v := .tuple #[enV 0 0 0 false, .bool false]) (by simp [results, Try.results32, go_sem, r0, r1, r2, r3]) rfl ⟨rfl, ?_⟩
    exact (((hB1.out.setCell (Nat.le_succ _) _).setCell (Nat.le_succ _) _).setCell (Nat.le_succ _) _).setCell (Nat.le_succ _) _
  | true =>
    have hsa : Hid (stA ⟨id, ck, P, D⟩ m = ((m', (t', k'), f'), b')) := hid (by
      have := hst'.out
      unfold stR at this
      rw [hv] at this
      exact this)
    have hv := hid hv
    go_enter Try.func32, Try.ntmps32
    go_wp2_with fail
    refine (GroupValidS_as hv.out _ hr0.out).mono ?_
    rintro e w1 ⟨rfl, hb1⟩
    have hB1 := hid (hB0.out.trans (hb1.mono (by simp; omega)))
    have hG1 := hid (hG0.out.1.step hb1)
    have hR1 := hid (hG0.out.2.step hb1)
    have hr1 := hid (hr0.out.below hb1)
    obtain ⟨q0, q1, q2, q3⟩ := hG1.out.four
    clear hb1
    go_wp2_with fail
    refine (l11Stamp_as hsa.out _ hr1.out).mono ?_
    rintro e w2 ⟨rfl, hb2⟩
    have hB2 := hid (hB1.out.trans (hb2.mono hB1.out.size))
    have hR2 := hid (hR1.out.step hb2)
    obtain ⟨r0, r1, r2, r3⟩ := hR2.out.four
    obtain ⟨u0, u1, u2, u3⟩ := hR2.out.free4
    clear hb2 q0 q1 q2 q3
    go_wp2
    refine bodyPost_ret (v := .tuple #[enV m' t' k' f', .bool b']) (by simp [results, Try.results32, go_sem, r0, r1, r2, r3]) rfl ⟨rfl, ?_⟩
    exact (((hB2.out.setCell (Nat.le_succ _) _).setCell (Nat.le_succ _) _).setCell (Nat.le_succ _) _).setCell (Nat.le_succ _) _

set_option maxHeartbeats 2000000 in
theorem GroupBlocked_impl {n1 c1 n2 c2 : Nat} {A1 A2 : Option Addr} {P D : List En} {id ck r : Int} (hbl : blR ⟨id, ck, P, D⟩ = r) (w : World) (hr : RdG w A1 n1 c1 A2 n2 c2 P D) :
    Calls Try.prog 13 #[gpV id ck (.slice A1 n1 c1) (.slice A2 n2 c2)] w fun e w' => e = .returned (.int .i64 r) ∧ Below w.heap.size w w' := by
  have hB0 := hid (below1 w (.cells #[.int .i64 id, .int .i64 ck, .slice A1 n1 c1, .slice A2 n2 c2] 25))
  have hG0 := hid (Cs.new w 25 #[.int .i64 id, .int .i64 ck, .slice A1 n1 c1, .slice A2 n2 c2])
  have hr0 := hid (hr.below hB0.out)
  have hl1 := hid hr.rp.len
  have hbl' := hid hbl
  clear hbl hr
  cases hv : vdB ⟨id, ck, P, D⟩ with
  | false =>
    obtain rfl : r = -1 := by
      have := hbl'.out
      unfold blR at this
      rw [hv] at this
      simpa using this.symm
    have hv := hid hv
    go_enter Try.func13, Try.ntmps13
    go_wp2_with fail
    refine (GroupValidI_as hv.out _ hr0.out).mono ?_
    rintro e w1 ⟨rfl, hb1⟩
    have hB1 := hid (hB0.out.trans (hb1.mono (by simp)))
    clear hb1
    go_wp2
    go_ret
    exact ⟨rfl, hB1.out⟩
  | true =>
    have hR : Hid (r = hdM P) := hid (hbl'.out.symm.trans (bl_yes hv))
    have hv := hid hv
    by_cases h0 : n1 = 0
    · obtain rfl : r = -1 := by
        have h1 : P = [] := List.eq_nil_of_length_eq_zero (by rw [hl1.out]; exact h0)
        have := hR.out
        rw [h1] at this; exact this
      have hz : ((n1 : Int) == 0) = true := by simp [h0]
      clear h0
      go_enter Try.func13, Try.ntmps13
      go_wp2_with fail
      refine (GroupValidI_as hv.out _ hr0.out).mono ?_
      rintro e w1 ⟨rfl, hb1⟩
      have hB1 := hid (hB0.out.trans (hb1.mono (by simp)))
      have hG1 := hid (hG0.out.step hb1)
      obtain ⟨q0, q1, q2, q3⟩ := hG1.out.four
      clear hb1
      go_wp2
      go_ret
      exact ⟨rfl, hB1.out⟩
    · have hz : ((n1 : Int) == 0) = false := by simp; omega
      have h01 : 0 < n1 := by omega
      have n1i : (0 : Int) < (n1 : Int) := by omega
      clear h0
      go_enter Try.func13, Try.ntmps13
      go_wp2_with fail
      refine (GroupValidI_as hv.out _ hr0.out).mono ?_
      rintro e w1 ⟨rfl, hb1⟩
      have hB1 := hid (hB0.out.trans (hb1.mono (by simp)))
      have hG1 := hid (hG0.out.step hb1)
      have hr1 := hid (hr0.out.below hb1)
      obtain ⟨q0, q1, q2, q3⟩ := hG1.out.four
      obtain ⟨b, off, m, t, g, f, rfl, hx, hb, d0, d1, d2, d3⟩ := hr1.out.rp.at_ h01
      simp only [Nat.zero_mul, Nat.add_zero] at d0 d1 d2 d3
      have hm : r = m := by
        have h1 := hR.out
        have h2 := hx.out
        cases P with
        | nil => simp at h2
        | cons p l => simp at h2; rw [h2] at h1; exact h1
      subst hm
      clear hb1 hx
      go_wp2
      go_ret
      exact ⟨rfl, hB1.out⟩

set_option maxHeartbeats 2000000 in
theorem GroupBlocked_spec {n1 c1 n2 c2 : Nat} {A1 A2 : Option Addr} {P D : List En} {id ck r : Int} (hbl : blR ⟨id, ck, P, D⟩ = r) (w : World) (hr : RdG w A1 n1 c1 A2 n2 c2 P D) :
    Calls Try.prog 14 #[gpV id ck (.slice A1 n1 c1) (.slice A2 n2 c2)] w fun e w' => e = .returned (.int .i64 r) ∧ Below w.heap.size w w' := by
  have hB0 := hid (below1 w (.cells #[.int .i64 id, .int .i64 ck, .slice A1 n1 c1, .slice A2 n2 c2] 25))
  have hG0 := hid (Cs.new w 25 #[.int .i64 id, .int .i64 ck, .slice A1 n1 c1, .slice A2 n2 c2])
  have hr0 := hid (hr.below hB0.out)
  have hl1 := hid hr.rp.len
  have hbl' := hid hbl
  clear hbl hr
  cases hv : vdB ⟨id, ck, P, D⟩ with
  | false =>
    obtain rfl : r = -1 := by
      have := hbl'.out
      unfold blR at this
      rw [hv] at this
      simpa using this.symm
    have hv := hid hv
    go_enter Try.func14, Try.ntmps14
    go_wp2_with fail
    refine (GroupValidS_as hv.out _ hr0.out).mono ?_
    rintro e w1 ⟨rfl, hb1⟩
    have hB1 := hid (hB0.out.trans (hb1.mono (by simp)))
    clear hb1
    go_wp2
    go_ret
    exact ⟨rfl, hB1.out⟩
  | true =>
    have hR : Hid (r = hdM P) := hid (hbl'.out.symm.trans (bl_yes hv))
    have hv := hid hv
    by_cases h0 : n1 = 0
    · obtain rfl : r = -1 := by
        have h1 : P = [] := List.eq_nil_of_length_eq_zero (by rw [hl1.out]; exact h0)
        have := hR.out
        rw [h1] at this; exact this
      have hz : ((n1 : Int) == 0) = true := by simp [h0]
      clear h0
      go_enter Try.func14, Try.ntmps14
      go_wp2_with fail
      refine (GroupValidS_as hv.out _ hr0.out).mono ?_
      rintro e w1 ⟨rfl, hb1⟩
      have hB1 := hid (hB0.out.trans (hb1.mono (by simp)))
      have hG1 := hid (hG0.out.step hb1)
      obtain ⟨q0, q1, q2, q3⟩ := hG1.out.four
      clear hb1
      go_wp2
      go_ret
      exact ⟨rfl, hB1.out⟩
    · have hz : ((n1 : Int) == 0) = false := by simp; omega
      have h01 : 0 < n1 := by omega
      have n1i : (0 : Int) < (n1 : Int) := by omega
      clear h0
      go_enter Try.func14, Try.ntmps14
      go_wp2_with fail
      refine (GroupValidS_as hv.out _ hr0.out).mono ?_
      rintro e w1 ⟨rfl, hb1⟩
      have hB1 := hid (hB0.out.trans (hb1.mono (by simp)))
      have hG1 := hid (hG0.out.step hb1)
      have hr1 := hid (hr0.out.below hb1)
      obtain ⟨q0, q1, q2, q3⟩ := hG1.out.four
      obtain ⟨b, off, m, t, g, f, rfl, hx, hb, d0, d1, d2, d3⟩ := hr1.out.rp.at_ h01
      simp only [Nat.zero_mul, Nat.add_zero] at d0 d1 d2 d3
      have hm : r = m := by
        have h1 := hR.out
        have h2 := hx.out
        cases P with
        | nil => simp at h2
        | cons p l => simp at h2; rw [h2] at h1; exact h1
      subst hm
      clear hb1 hx
      go_wp2
      go_ret
      exact ⟨rfl, hB1.out⟩

def NewPost (id : Int) (w : World) (e : Ending) (w' : World) : Prop :=
  ∃ (A1 : Option Addr) (c1 : Nat) (A2 : Option Addr) (c2 : Nat), e = .returned (.tuple #[gpV (if grB id then id else 0) 0 (.slice A1 0 c1) (.slice A2 0 c2), .bool (grB id)]) ∧ OwG w' w.heap.size A1 0 c1 A2 0 c2 [] [] ∧ Below w.heap.size w w'

theorem own_nil (w : World) (lo : Nat) : OwG w lo none 0 0 none 0 0 [] [] := ⟨World.ownsRow_nil w _ _ _, World.ownsRow_nil w _ _ _, rfl, rfl, fun b h => by cases h⟩

end Go.Proofs.Ytmfpbeggddkepaa
