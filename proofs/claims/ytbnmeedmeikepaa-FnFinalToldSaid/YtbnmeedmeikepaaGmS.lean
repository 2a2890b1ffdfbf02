/-
  Contracts of the readers of a group, of the program and of the model: l11Stamp, GroupStamp, GroupBlocked, GroupTrace, GroupNew. No condition but lengths below 2^40.
-/
import Derived.Test.YtbnmeedmeikepaaGmR
namespace Go.Proofs.Ytbnmeedmeikepaa
open Go.RowKit
set_option linter.unusedVariables false
set_option linter.unusedSimpArgs false

def hdM : List En → Int
  | [] => -1
  | e :: _ => e.1

theorem bl_yes {id ck : Int} {P D : List En} (h : vdB ⟨id, ck, P, D⟩ = true) : blR ⟨id, ck, P, D⟩ = hdM P := by
  unfold blR
  rw [if_pos h]
  cases P <;> rfl

theorem gbox (w : World) (id ck : Int) (p q : Value) (cs : Array Value) (T : TypeId) : Cs ((w.alloc (.cells #[.int .i64 id, .int .i64 ck, p, q] 25)).alloc (.cells cs T)) w.heap.size 25 #[.int .i64 id, .int .i64 ck, p, q] ∧ Cs ((w.alloc (.cells #[.int .i64 id, .int .i64 ck, p, q] 25)).alloc (.cells cs T)) (w.heap.size + 1) T cs :=
  ⟨(Cs.new w _ _).alloc _, Cs.new' _ _ _ (by simp)⟩

set_option maxHeartbeats 2000000 in
theorem GroupStamp_impl {n1 c1 n2 c2 : Nat} {A1 A2 : Option Addr} {P D : List En} {id ck m m' t' k' : Int} {f' b' : Bool} (hst : stR ⟨id, ck, P, D⟩ m = ((m', (t', k'), f'), b')) (w : World) (hr : RdG w A1 n1 c1 A2 n2 c2 P D) :
    Calls Try.prog 10 #[gpV id ck (.slice A1 n1 c1) (.slice A2 n2 c2), .int .i64 m] w fun e w' => e = .returned (.tuple #[enV m' t' k' f', .bool b']) ∧ Below w.heap.size w w' := by
  have hB0 := hid (below2 w (.cells #[.int .i64 id, .int .i64 ck, .slice A1 n1 c1, .slice A2 n2 c2] 25) (.cells #[.int .i64 0, .int .i64 0, .int .i64 0, .bool false] 34))
  have hG0 := hid (gbox w id ck (.slice A1 n1 c1) (.slice A2 n2 c2) #[.int .i64 0, .int .i64 0, .int .i64 0, .bool false] 34)
  have hr0 := hid (hr.below hB0.out)
  have hst' := hid hst
  clear hst hr
  cases hv : vdB ⟨id, ck, P, D⟩ with
  | false =>
    obtain ⟨rfl, rfl, rfl, rfl, rfl⟩ : m' = 0 ∧ t' = 0 ∧ k' = 0 ∧ f' = false ∧ b' = false := by
      have := hst'.out
      unfold stR at this
      rw [hv] at this
      simp only [Bool.false_eq_true, if_false, en0, Prod.mk.injEq] at this
      exact ⟨this.1.1.symm, this.1.2.1.1.symm, this.1.2.1.2.symm, this.1.2.2.symm, this.2.symm⟩
    have hv := hid hv
    go_enter Try.func10, Try.ntmps10
    go_wp2_with fail
    refine (GroupValidI_as hv.out _ hr0.out).mono ?_
    rintro e w1 ⟨rfl, hb1⟩
    have hB1 := hid (hB0.out.trans (hb1.mono (by simp; omega)))
    have hR1 := hid (hG0.out.2.step hb1)
    obtain ⟨r0, r1, r2, r3⟩ := hR1.out.four
    obtain ⟨u0, u1, u2, u3⟩ := hR1.out.free4
    clear hb1
    go_wp2
    refine bodyPost_ret (v := .tuple #[enV 0 0 0 false, .bool false]) (by simp [results, Try.results10, go_sem, r0, r1, r2, r3]) rfl ⟨rfl, ?_⟩
    exact (((hB1.out.setCell (Nat.le_succ _) _).setCell (Nat.le_succ _) _).setCell (Nat.le_succ _) _).setCell (Nat.le_succ _) _
  | true =>
    have hsa : Hid (stA ⟨id, ck, P, D⟩ m = ((m', (t', k'), f'), b')) := hid (by
      have := hst'.out
      unfold stR at this
      rw [hv] at this
      exact this)
    have hv := hid hv
    go_enter Try.func10, Try.ntmps10
    go_wp2_with fail
    refine (GroupValidI_as hv.out _ hr0.out).mono ?_
    rintro e w1 ⟨rfl, hb1⟩
    have hB1 := hid (hB0.out.trans (hb1.mono (by simp; omega)))
    have hG1 := hid (hG0.out.1.step hb1)
    have hR1 := hid (hG0.out.2.step hb1)
    have hr1 := hid (hr0.out.below hb1)
    obtain ⟨q0, q1, q2, q3⟩ := hG1.out.four
    clear hb1
    go_wp2_with fail
    refine (entry_as hsa.out _ hr1.out).mono ?_
    rintro e w2 ⟨rfl, hb2⟩
    have hB2 := hid (hB1.out.trans (hb2.mono hB1.out.size))
    have hR2 := hid (hR1.out.step hb2)
    obtain ⟨r0, r1, r2, r3⟩ := hR2.out.four
    obtain ⟨u0, u1, u2, u3⟩ := hR2.out.free4
    clear hb2 q0 q1 q2 q3
    go_wp2
    refine bodyPost_ret (v := .tuple #[enV m' t' k' f', .bool b']) (by simp [results, Try.results10, go_sem, r0, r1, r2, r3]) rfl ⟨rfl, ?_⟩
    exact (((hB2.out.setCell (Nat.le_succ _) _).setCell (Nat.le_succ _) _).setCell (Nat.le_succ _) _).setCell (Nat.le_succ _) _

def NewPost (id : Int) (w : World) (e : Ending) (w' : World) : Prop :=
  ∃ (A1 : Option Addr) (c1 : Nat) (A2 : Option Addr) (c2 : Nat), e = .returned (.tuple #[gpV (if grB id then id else 0) 0 (.slice A1 0 c1) (.slice A2 0 c2), .bool (grB id)]) ∧ OwG w' w.heap.size A1 0 c1 A2 0 c2 [] [] ∧ Below w.heap.size w w'

theorem own_nil (w : World) (lo : Nat) : OwG w lo none 0 0 none 0 0 [] [] := ⟨World.ownsRow_nil w _ _ _, World.ownsRow_nil w _ _ _, rfl, rfl, fun b h => by cases h⟩

end Go.Proofs.Ytbnmeedmeikepaa
