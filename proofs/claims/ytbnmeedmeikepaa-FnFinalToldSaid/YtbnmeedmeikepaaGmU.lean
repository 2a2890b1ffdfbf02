/-
  Contract of the program's GroupPropose. No condition but lengths below 2^40.
-/
import Derived.Test.YtbnmeedmeikepaaGmT
namespace Go.Proofs.Ytbnmeedmeikepaa
open Go.RowKit
set_option linter.unusedVariables false
set_option linter.unusedSimpArgs false

section
variable {S : Nat → Prop} {w w' : World}

theorem Kp.set4 (h : Kp S w w') {b : Nat} (hb : S b) (u0 u1 u2 u3 : Value) : Kp S w ((((w'.setCell ⟨b, 0, none⟩ u0).setCell ⟨b, 1, none⟩ u1).setCell ⟨b, 2, none⟩ u2).setCell ⟨b, 3, none⟩ u3) :=
  (((h.setCell (.inr hb) _).setCell (.inr hb) _).setCell (.inr hb) _).setCell (.inr hb) _

theorem Kp.set2 (h : Kp S w w') {b : Nat} (hb : S b) (u0 u1 : Value) : Kp S w ((w'.setCell ⟨b, 0, none⟩ u0).setCell ⟨b, 1, none⟩ u1) := (h.setCell (.inr hb) _).setCell (.inr hb) _

theorem OwG.kp {lo n1 c1 n2 c2 : Nat} {A1 A2 : Option Addr} {P D : List En} (h : OwG w lo A1 n1 c1 A2 n2 c2 P D) (hk : Kp S w w') (hS : ∀ b, lo ≤ b → ¬ S b) : OwG w' lo A1 n1 c1 A2 n2 c2 P D :=
  ⟨hk.own h.op (fun k hk' => hS k (h.op.lt k hk').1), hk.own h.od (fun k hk' => hS k (h.od.lt k hk').1), h.l1, h.l2, h.ne⟩

theorem OwG.drew {lo n1 c1 n2 c2 : Nat} {A1 A2 : Option Addr} {P D : List En} (h : OwG w lo A1 n1 c1 A2 n2 c2 P D) : OwG w.drew lo A1 n1 c1 A2 n2 c2 P D := ⟨ow_drew h.op, ow_drew h.od, h.l1, h.l2, h.ne⟩

theorem Cs.two {b : Nat} {T : TypeId} {a0 a1 : Value} (h : Cs w b T #[a0, a1]) : w.cell? ⟨b, 0, none⟩ = some a0 ∧ w.cell? ⟨b, 1, none⟩ = some a1 ∧ w.frozen? ⟨b, 0, none⟩ = false ∧ w.frozen? ⟨b, 1, none⟩ = false := ⟨h.cell 0, h.cell 1, h.frozen 0, h.frozen 1⟩

theorem Cs.set4 {b : Nat} {T : TypeId} {a0 a1 a2 a3 : Value} (h : Cs w b T #[a0, a1, a2, a3]) (u0 u1 u2 u3 : Value) : Cs ((((w.setCell ⟨b, 0, none⟩ u0).setCell ⟨b, 1, none⟩ u1).setCell ⟨b, 2, none⟩ u2).setCell ⟨b, 3, none⟩ u3) b T #[u0, u1, u2, u3] :=
  (((h.set 0 u0).set 1 u1).set 2 u2).set 3 u3
end
/-- the three blocks at the call's head: the group, the two results -/
def PrB (w W : World) (gc : Array Value) : Prop :=
  Cs W w.heap.size 25 gc ∧ Cs W (w.heap.size + 1) 25 #[.int .i64 0, .int .i64 0, .slice none 0 0, .slice none 0 0] ∧ Cs W (w.heap.size + 1 + 1) 29 #[.int .i64 0, .int .i64 0] ∧ Below w.heap.size w W

theorem PrB.step {w W W' : World} {gc : Array Value} (h : PrB w W gc) (hb : Below W.heap.size W W') : PrB w W' gc := ⟨h.1.step hb, h.2.1.step hb, h.2.2.1.step hb, h.2.2.2.trans (hb.mono h.2.2.2.size)⟩

theorem PrB.kp {w W W' : World} {gc : Array Value} {S : Nat → Prop} (h : PrB w W gc) (hk : Kp S W W') (hS : ∀ b, S b → w.heap.size + 1 + 1 < b) : PrB w W' gc :=
  ⟨h.1.kp hk (fun h => by have := hS _ h; omega), h.2.1.kp hk (fun h => by have := hS _ h; omega), h.2.2.1.kp hk (fun h => by have := hS _ h; omega), h.2.2.2.trans (hk.base h.2.2.2.size (fun i hi => by have := hS i hi; omega))⟩
/-- the blocks at the head -/
def Hd (w : World) (b : Nat) : Prop := w.heap.size ≤ b ∧ b ≤ w.heap.size + 1 + 1

theorem hd0 (w : World) : Hd w w.heap.size := ⟨Nat.le_refl _, by omega⟩

theorem hd1 (w : World) : Hd w (w.heap.size + 1) := ⟨by omega, by omega⟩

theorem hd2 (w : World) : Hd w (w.heap.size + 1 + 1) := ⟨by omega, by omega⟩

def PrPost (id' ck' t' k' : Int) (b' : Bool) (P' D' : List En) (w : World) (e : Ending) (w' : World) : Prop :=
  ∃ (A1 : Option Addr) (c1 : Nat) (A2 : Option Addr) (c2 : Nat), e = .returned (.tuple #[gpV id' ck' (.slice A1 P'.length c1) (.slice A2 D'.length c2), two t' k', .bool b']) ∧ OwG w' w.heap.size A1 P'.length c1 A2 D'.length c2 P' D' ∧ Below w.heap.size w w'

set_option maxRecDepth 100000 in
set_option maxHeartbeats 8000000 in
theorem GroupPropose_impl {n1 c1 n2 c2 : Nat} {A1 A2 : Option Addr} {P D P' D' : List En} {id ck m id' ck' t' k' : Int} {b' : Bool} (hR : prR ⟨id, ck, P, D⟩ m = (⟨id', ck', P', D'⟩, (t', k'), b')) (w : World) (hr : RdG w A1 n1 c1 A2 n2 c2 P D) (hN : n1 + 1 < 1099511627776) :
    Calls Try.prog 7 #[gpV id ck (.slice A1 n1 c1) (.slice A2 n2 c2), .int .i64 m] w (PrPost id' ck' t' k' b' P' D' w) := by
  have hX0 : Hid (PrB w (((w.alloc (.cells #[.int .i64 id, .int .i64 ck, .slice A1 n1 c1, .slice A2 n2 c2] 25)).alloc (.cells #[.int .i64 0, .int .i64 0, .slice none 0 0, .slice none 0 0] 25)).alloc (.cells #[.int .i64 0, .int .i64 0] 29)) #[.int .i64 id, .int .i64 ck, .slice A1 n1 c1, .slice A2 n2 c2]) := hid
    ⟨((Cs.new w _ _).alloc _).alloc _, (Cs.new' _ _ _ (by simp)).alloc _, Cs.new' _ _ _ (by simp), below3 w _ _ _⟩
  have hr0 := hid (hr.below hX0.out.2.2.2)
  have hl1 := hid hr.rp.len
  have hl2 := hid hr.rd.len
  have hh1 := hr.h1
  have hh2 := hr.h2
  have hR' := hid hR
  clear hR hr
  cases hv : vdB ⟨id, ck, P, D⟩ with
  | false =>
    obtain ⟨rfl, rfl, rfl, rfl, rfl, rfl, rfl⟩ : id' = 0 ∧ ck' = 0 ∧ P' = [] ∧ D' = [] ∧ t' = 0 ∧ k' = 0 ∧ b' = false := by
      have := hR'.out
      unfold prR at this
      rw [hv] at this
      simp only [Bool.false_and, Bool.false_eq_true, if_false, gp0, Prod.mk.injEq, Gp.mk.injEq] at this
      exact ⟨this.1.1.symm, this.1.2.1.symm, this.1.2.2.1.symm, this.1.2.2.2.symm, this.2.1.1.symm, this.2.1.2.symm, this.2.2.symm⟩
    have hv := hid hv
    go_enter Try.func7, Try.ntmps7
    go_wp2_with fail
    refine (GroupValidI_as hv.out _ hr0.out).mono ?_
    rintro e w1 ⟨rfl, hb1⟩
    have hX1 := hid (hX0.out.step hb1)
    obtain ⟨r0, r1, r2, r3⟩ := hX1.out.2.1.four
    obtain ⟨u0, u1, u2, u3⟩ := hX1.out.2.1.free4
    obtain ⟨s0, s1, s2, s3⟩ := hX1.out.2.2.1.two
    have hz1 := hX1.out.2.2.1.lt
    clear hb1
    go_wp2
    refine bodyPost_ret (v := .tuple #[gpV 0 0 (.slice none 0 0) (.slice none 0 0), two 0 0, .bool false]) (by simp [results, Try.results7, go_sem, r0, r1, r2, r3, s0, s1]) rfl ⟨none, 0, none, 0, rfl, own_nil _ _, ?_⟩
    exact hX1.out.2.2.2.trans ((((Kp.refl (Hd w) w1).set4 (hd1 w) _ _ _ _).set2 (hd2 w) _ _).base hX1.out.2.2.2.size (fun i h => h.1))
  | true =>
    cases hM : msB m with
    | false =>
      obtain ⟨rfl, rfl, rfl, rfl, rfl, rfl, rfl⟩ : id' = 0 ∧ ck' = 0 ∧ P' = [] ∧ D' = [] ∧ t' = 0 ∧ k' = 0 ∧ b' = false := by
        have := hR'.out
        unfold prR at this
        rw [hv, hM] at this
        simp only [Bool.and_false, Bool.false_eq_true, if_false, gp0, Prod.mk.injEq, Gp.mk.injEq] at this
        exact ⟨this.1.1.symm, this.1.2.1.symm, this.1.2.2.1.symm, this.1.2.2.2.symm, this.2.1.1.symm, this.2.1.2.symm, this.2.2.symm⟩
      have hv := hid hv
      have hM := hid hM
      go_enter Try.func7, Try.ntmps7
      go_wp2_with fail
      refine (GroupValidI_as hv.out _ hr0.out).mono ?_
      rintro e w1 ⟨rfl, hb1⟩
      have hX1 := hid (hX0.out.step hb1)
      obtain ⟨r0, r1, r2, r3⟩ := hX1.out.2.1.four
      obtain ⟨u0, u1, u2, u3⟩ := hX1.out.2.1.free4
      obtain ⟨s0, s1, s2, s3⟩ := hX1.out.2.2.1.two
      have hz1 := hX1.out.2.2.1.lt
      clear hb1
      go_wp2_with fail
      refine (messageExists_as hM.out _).mono ?_
      rintro e w2 ⟨rfl, rfl⟩
      go_wp2
      refine bodyPost_ret (v := .tuple #[gpV 0 0 (.slice none 0 0) (.slice none 0 0), two 0 0, .bool false]) (by simp [results, Try.results7, go_sem, r0, r1, r2, r3, s0, s1]) rfl ⟨none, 0, none, 0, rfl, own_nil _ _, ?_⟩
      exact hX1.out.2.2.2.trans ((((Kp.refl (Hd w) w1).set4 (hd1 w) _ _ _ _).set2 (hd2 w) _ _).base hX1.out.2.2.2.size (fun i h => h.1))
    | true =>
      have hpr : Hid (prA ⟨id, ck, P, D⟩ m = (⟨id', ck', P', D'⟩, (t', k'), b')) := hid (by
        have := hR'.out
        unfold prR at this
        rw [hv, hM] at this
        exact this)
      have hV := hid (vdB_true.1 hv)
      have hC := hid (prA_cases hV.out m hM)
      obtain ⟨me, te, ke, fe, be, hst⟩ : ∃ me te ke fe be, stA ⟨id, ck, P, D⟩ m = ((me, (te, ke), fe), be) := ⟨_, _, _, _, _, rfl⟩
      have hst := hid hst
      have hv := hid hv
      have hM' := hid hM
      clear hM
      go_enter Try.func7, Try.ntmps7
      go_wp2_with fail
      refine (GroupValidI_as hv.out _ hr0.out).mono ?_
      rintro e w1 ⟨rfl, hb1⟩
      have hX1 := hid (hX0.out.step hb1)
      have hr1 := hid (hr0.out.below hb1)
      obtain ⟨q0, q1, q2, q3⟩ := hX1.out.1.four
      clear hb1 hX0 hr0
      go_wp2_with fail
      refine (messageExists_as hM'.out _).mono ?_
      rintro e w2 ⟨rfl, rfl⟩
      go_wp2_with fail
      refine (copied_any id ck _ hr1.out).mono ?_
      rintro e w3 ⟨B1, d1, B2, d2, rfl, ho3, hb3⟩
      have hz1 : w.heap.size + 1 + 1 < w1.heap.size := hX1.out.2.2.1.lt
      have hX3 := hid (hX1.out.step hb3)
      have hO3 := hid ho3
      obtain ⟨q0, q1, q2, q3⟩ := hX3.out.1.four
      obtain ⟨u0, u1, u2, u3⟩ := hX3.out.1.free4
      have hk4 := hid ((Kp.refl (Hd w) w3).set4 (hd0 w) (.int .i64 id) (.int .i64 ck) (.slice B1 P.length d1) (.slice B2 D.length d2))
      have hX4 : Hid (PrB w ((((w3.setCell ⟨w.heap.size, 0, none⟩ (.int .i64 id)).setCell ⟨w.heap.size, 1, none⟩ (.int .i64 ck)).setCell ⟨w.heap.size, 2, none⟩ (.slice B1 P.length d1)).setCell ⟨w.heap.size, 3, none⟩ (.slice B2 D.length d2)) #[.int .i64 id, .int .i64 ck, .slice B1 P.length d1, .slice B2 D.length d2]) := hid
        ⟨hX3.out.1.set4 _ _ _ _, (((hX3.out.2.1.far (by simp) _).far (by simp) _).far (by simp) _).far (by simp) _, (((hX3.out.2.2.1.far (by simp; omega) _).far (by simp; omega) _).far (by simp; omega) _).far (by simp; omega) _,
          (((hX3.out.2.2.2.setCell (Nat.le_refl _) _).setCell (Nat.le_refl _) _).setCell (Nat.le_refl _) _).setCell (Nat.le_refl _) _⟩
      have hO4 := hid (hO3.out.kp hk4.out (fun b hb h => by have := h.2; omega))
      have hP1 : P.length < 1099511627776 := by rw [hl1.out]; omega
      have hP2 : D.length < 1099511627776 := by rw [hl2.out]; exact hh2
      have hG4 := hid (hO4.out.rdg hP1 hP2)
      have hsz3 := hb3.size
      clear hb3 ho3 hX1 hr1 hX3 hO3 hk4
      go_wp2_with fail
      refine (entry_as hst.out _ hG4.out).mono ?_
      rintro e w5 ⟨rfl, hb5⟩
      have hX5 := hid (hX4.out.step hb5)
      have hO5 := hid (hO4.out.below hb5)
      obtain ⟨W6, hW6⟩ : ∃ W6, w5.alloc (.cells #[.int .i64 me, .int .i64 te, .int .i64 ke, .bool fe] 34) = W6 := ⟨_, rfl⟩
      have hb6 := below1 w5 (.cells #[.int .i64 me, .int .i64 te, .int .i64 ke, .bool fe] 34)
      have hE6 := hid (Cs.new w5 34 #[.int .i64 me, .int .i64 te, .int .i64 ke, .bool fe])
      rw [hW6] at hb6 hE6
      have hX6 := hid (hX5.out.step hb6)
      have hO6 := hid (hO5.out.below hb6)
      have hz5 : w.heap.size + 1 + 1 < w5.heap.size := hX5.out.2.2.1.lt
      have hlo8 : Hid (w1.heap.size ≤ W6.heap.size) := hid (Nat.le_trans hsz3 (Nat.le_trans (by simp [World.setCell]) (Nat.le_trans hb5.size hb6.size)))
      have hW6' := hid hW6
      have hlo : Hid (w.heap.size + 1 + 1 < w1.heap.size) := hid hz1
      have hz6 : w5.heap.size < W6.heap.size := hE6.out.lt
      obtain ⟨q0, q1, q2, q3⟩ := hX5.out.1.four
      clear hb5 hb6 hX4 hO4 hG4 u0 u1 u2 u3 hW6
      go_upto_region 5 with (fail)
      rw [hW6'.out]
      clear q0 q1 q2 q3
      obtain ⟨q0, q1, q2, q3⟩ := hX6.out.1.four
      obtain ⟨p0, p1, p2, p3⟩ := hX6.out.1.free4
      obtain ⟨r0, r1, r2, r3⟩ := hX6.out.2.1.four
      obtain ⟨s0, s1, s2, s3⟩ := hX6.out.2.2.1.two
      obtain ⟨v0, v1, v2, v3⟩ := hX6.out.2.1.free4
      obtain ⟨e0, e1, e2, e3⟩ := hE6.out.four
      have hzne : w.heap.size + 1 < w5.heap.size := by omega
      have hz6b : w.heap.size < W6.heap.size := by omega
      clear hX5 hO5
      rcases hC.out with ⟨e, he, h1, h2, h3, h4⟩ | ⟨⟨e, he, h1, h2, h3⟩, h4⟩ | ⟨h3, hnP, hnD, h5⟩
      · -- pending and not final: the same stamp
        obtain ⟨rfl, rfl⟩ : be = true ∧ fe = false := by
          have := hst.out.symm.trans h3
          simp only [Prod.mk.injEq] at this
          rw [← this.1] at h2
          exact ⟨this.2, h2⟩
        obtain ⟨rfl, rfl, rfl, rfl, rfl, rfl, rfl⟩ : id = id' ∧ ck = ck' ∧ P = P' ∧ D = D' ∧ te = t' ∧ ke = k' ∧ true = b' := by
          have h6 := hst.out.symm.trans h3
          have h7 := hpr.out.symm.trans h4
          simp only [Prod.mk.injEq, Gp.mk.injEq] at h6 h7
          have e1 : e = (me, (te, ke), false) := h6.1.symm
          rw [e1] at h7
          exact ⟨h7.1.1.symm, h7.1.2.1.symm, h7.1.2.2.1.symm, h7.1.2.2.2.symm, (congrArg Prod.fst h7.2.1).symm, (congrArg Prod.snd h7.2.1).symm, h7.2.2.symm⟩
        have hfk := hid ((((Kp.refl (Hd w) W6).set4 (hd1 w) (.int .i64 id) (.int .i64 ck) (.slice B1 P.length d1) (.slice B2 D.length d2)).set2 (hd2 w) (.int .i64 te) (.int .i64 ke)).drew)
        have hfo := hid (hO6.out.kp hfk.out (fun b hb h => by have h8 := h.2; have h9 := hlo.out; omega))
        have hfb := hid (hX6.out.2.2.2.trans (hfk.out.base hX6.out.2.2.2.size (fun i h => h.1)))
        clear he h1 h2 h3 h4 hC
        go_wp2_with fail
        go_region
        go_wp2
        refine bodyPost_ret (v := .tuple #[gpV id ck (.slice B1 P.length d1) (.slice B2 D.length d2), two te ke, .bool true]) (by simp [results, Try.results7, go_sem, r0, r1, r2, r3, s0, s1]) rfl ⟨B1, d1, B2, d2, rfl, hfo.out.more (by omega), hfb.out⟩
      · -- final already: refused
        obtain ⟨rfl, rfl⟩ : be = true ∧ fe = true := by
          have := hst.out.symm.trans h3
          simp only [Prod.mk.injEq] at this
          rw [← this.1] at h2
          exact ⟨this.2, h2⟩
        obtain ⟨rfl, rfl, rfl, rfl, rfl, rfl, rfl⟩ : id = id' ∧ ck = ck' ∧ P = P' ∧ D = D' ∧ 0 = t' ∧ 0 = k' ∧ false = b' := by
          have h7 := hpr.out.symm.trans h4
          simp only [Prod.mk.injEq, Gp.mk.injEq] at h7
          exact ⟨h7.1.1.symm, h7.1.2.1.symm, h7.1.2.2.1.symm, h7.1.2.2.2.symm, h7.2.1.1.symm, h7.2.1.2.symm, h7.2.2.symm⟩
        have hfk := hid (((Kp.refl (Hd w) W6).set4 (hd1 w) (.int .i64 id) (.int .i64 ck) (.slice B1 P.length d1) (.slice B2 D.length d2)).set2 (hd2 w) (.int .i64 0) (.int .i64 0))
        have hfo := hid (hO6.out.kp hfk.out (fun b hb h => by have h8 := h.2; have h9 := hlo.out; omega))
        have hfb := hid (hX6.out.2.2.2.trans (hfk.out.base hX6.out.2.2.2.size (fun i h => h.1)))
        clear he h1 h2 h3 h4 hC
        go_wp2
        refine bodyPost_ret (v := .tuple #[gpV id ck (.slice B1 P.length d1) (.slice B2 D.length d2), two 0 0, .bool false]) (by simp [results, Try.results7, go_sem, r0, r1, r2, r3, s0, s1]) rfl ⟨B1, d1, B2, d2, rfl, hfo.out.more (by omega), hfb.out⟩
      · rcases h5 with ⟨h5, h6⟩ | ⟨h5, h6, h7⟩
        · -- the clock is at its end
          obtain rfl : be = false := by
            have := hst.out.symm.trans h3
            simp only [Prod.mk.injEq] at this
            exact this.2
          obtain ⟨rfl, rfl, rfl, rfl, rfl, rfl, rfl⟩ : id = id' ∧ ck = ck' ∧ P = P' ∧ D = D' ∧ 0 = t' ∧ 0 = k' ∧ false = b' := by
            have h7 := hpr.out.symm.trans h6
            simp only [Prod.mk.injEq, Gp.mk.injEq] at h7
            exact ⟨h7.1.1.symm, h7.1.2.1.symm, h7.1.2.2.1.symm, h7.1.2.2.2.symm, h7.2.1.1.symm, h7.2.1.2.symm, h7.2.2.symm⟩
          have hck : (ck == 999) = true := by rw [beq_iff_eq]; exact h5
          clear h5 h6 h3 hnP hnD
          have hfk := hid (((Kp.refl (Hd w) W6).set4 (hd1 w) (.int .i64 id) (.int .i64 ck) (.slice B1 P.length d1) (.slice B2 D.length d2)).set2 (hd2 w) (.int .i64 0) (.int .i64 0))
          have hfo := hid (hO6.out.kp hfk.out (fun b hb h => by have h8 := h.2; have h9 := hlo.out; omega))
          have hfb := hid (hX6.out.2.2.2.trans (hfk.out.base hX6.out.2.2.2.size (fun i h => h.1)))
          clear hC
          go_wp2
          refine bodyPost_ret (v := .tuple #[gpV id ck (.slice B1 P.length d1) (.slice B2 D.length d2), two 0 0, .bool false]) (by simp [results, Try.results7, go_sem, r0, r1, r2, r3, s0, s1]) rfl ⟨B1, d1, B2, d2, rfl, hfo.out.more (by omega), hfb.out⟩
        · -- a new stamp
          obtain rfl : be = false := by
            have := hst.out.symm.trans h3
            simp only [Prod.mk.injEq] at this
            exact this.2
          obtain ⟨rfl, rfl, rfl, rfl, rfl, rfl, rfl⟩ : id = id' ∧ ck + 1 = ck' ∧ P ++ [(m, (ck + 1, id), false)] = P' ∧ D = D' ∧ ck + 1 = t' ∧ id = k' ∧ true = b' := by
            have h7 := hpr.out.symm.trans h6
            simp only [Prod.mk.injEq, Gp.mk.injEq] at h7
            exact ⟨h7.1.1.symm, h7.1.2.1.symm, h7.1.2.2.1.symm, h7.1.2.2.2.symm, h7.2.1.1.symm, h7.2.1.2.symm, h7.2.2.symm⟩
          have hck : (ck == 999) = false := by rw [beq_eq_false_iff_ne]; have h5' : ck < 999 := h5; omega
          have hck0 : 0 ≤ ck := hV.out.2.1
          have hck9 : ck < 999 := h5
          have hasc : Hid (AscE (P ++ [(m, (ck + 1, id), false)])) := hid (by
            have := h7.ascP
            exact this)
          have hup : Hid (1 ≤ P.length → ltS (ck + 1, id) (keyE P ((P.length - 1) / 2)) = false) := hid (fun h => by
            have h8 := hasc.out.key (i := (P.length - 1) / 2) (j := P.length) (by omega) (by simp)
            have e1 : keyE (P ++ [(m, (ck + 1, id), false)]) P.length = (ck + 1, id) := by rw [keyE, atE_get (x := (m, (ck + 1, id), false)) (by rw [List.getElem?_append_right (Nat.le_refl _)]; simp)]
            have e2 : keyE (P ++ [(m, (ck + 1, id), false)]) ((P.length - 1) / 2) = keyE P ((P.length - 1) / 2) := by
              have h1 : (P.length - 1) / 2 < P.length := by omega
              rw [keyE, keyE, atE_get (x := atE P ((P.length - 1) / 2)) (by rw [List.getElem?_append_left h1]; exact get_atE h1)]
            rw [e1, e2] at h8
            exact ltS_asymm h8)
          have hPn : P.length < 1099511627776 - 1 := by rw [hl1.out]; omega
          clear h3 h5 h6 h7 hnP hnD
          -- the world ahead of the push
          have hk7 := hid ((((Kp.refl (Hd w) W6).setCell (p := ⟨w.heap.size, 1, none⟩) (.inr (hd0 w)) (.int .i64 (ck + 1))).alloc (.cells #[.int .i64 (ck + 1), .int .i64 id] 29)).alloc (.cells #[.slice B1 P.length d1] 56))
          have hX7 : Hid (PrB w (((W6.setCell ⟨w.heap.size, 1, none⟩ (.int .i64 (ck + 1))).alloc (.cells #[.int .i64 (ck + 1), .int .i64 id] 29)).alloc (.cells #[.slice B1 P.length d1] 56)) #[.int .i64 id, .int .i64 (ck + 1), .slice B1 P.length d1, .slice B2 D.length d2]) := hid
            (((PrB.step ⟨hX6.out.1.set 1 _, hX6.out.2.1.far (by simp) _, hX6.out.2.2.1.far (by simp; omega) _, hX6.out.2.2.2.setCell (Nat.le_refl _) _⟩ (below1 _ _)).step (below1 _ _)))
          have hO7 := hid (hO6.out.kp hk7.out (fun b hb h => by have h8 := h.2; have h9 := hlo.out; omega))
          have hS7 : Hid (Cs (((W6.setCell ⟨w.heap.size, 1, none⟩ (.int .i64 (ck + 1))).alloc (.cells #[.int .i64 (ck + 1), .int .i64 id] 29)).alloc (.cells #[.slice B1 P.length d1] 56)) W6.heap.size 29 #[.int .i64 (ck + 1), .int .i64 id]) := hid ((Cs.new' _ _ _ (by simp [World.setCell])).alloc _)
          have hQ7 : Hid (HM (((W6.setCell ⟨w.heap.size, 1, none⟩ (.int .i64 (ck + 1))).alloc (.cells #[.int .i64 (ck + 1), .int .i64 id] 29)).alloc (.cells #[.slice B1 P.length d1] 56)) w1.heap.size (W6.heap.size + 1) (.slice B1 P.length d1) P) := hid
            ⟨Cs.new' _ _ _ (by simp [World.setCell]), hO7.out.op, fun h => by have := (hO6.out.op.lt _ h).2; omega⟩
          have hlo7 := hid (Nat.le_trans hlo8.out hk7.out.size)
          go_wp2_with fail
          refine (heapPush_any m (ck + 1) id false _ hQ7.out rfl hlo7.out hPn hup.out).mono ?_
          rintro e w8 ⟨rfl, g, c', h1, h2, h3⟩
          have hob : Hid (∀ b, (Value.slice B1 P.length d1).ownBlock = some b → w.heap.size + 1 + 1 < b ∧ b < W6.heap.size) := hid (fun b hb => ⟨by have h8 := (hO6.out.op.lt b hb).1; have h9 := hlo.out; omega, (hO6.out.op.lt b hb).2⟩)
          have hgb : Hid (w.heap.size + 1 + 1 < g ∧ g ≠ W6.heap.size) := hid (by
            rcases h2 with h | h
            · have := hob.out g h; omega
            · have h9 : W6.heap.size + 1 + 1 ≤ g := by simpa [World.setCell] using h
              omega)
          have hX8 := hid (hX7.out.kp h3 (fun b hb => by
            rcases hb with hb | hb
            · omega
            · exact (hob.out b hb).1))
          have hS8 := hid (hS7.out.kp h3 (fun hb => by
            rcases hb with hb | hb
            · omega
            · have := (hob.out _ hb).2; omega))
          have hD8 := hid (h3.own hO7.out.od (fun b hb hS => by
            rcases hS with hS | hS
            · have := (hO6.out.od.lt b hb).2; omega
            · exact hO6.out.ne b hS hb))
          have hDg : Hid (∀ b, (Value.slice B2 D.length d2).ownBlock = some b → b ≠ g ∧ b < W6.heap.size) := hid (fun b hb => ⟨fun e => by
            subst e
            rcases h2 with h | h
            · exact hO6.out.ne b h hb
            · have h8 := (hO6.out.od.lt b hb).2
              have h9 : W6.heap.size + 1 + 1 ≤ b := by simpa [World.setCell] using h
              omega, (hO6.out.od.lt b hb).2⟩)
          have hH8 := hid h1
          have hz8 : Hid (W6.heap.size ≤ w8.heap.size) := hid (Nat.le_trans hk7.out.size h3.size)
          have hlz8 := hid hlo7.out
          have hc8 := hH8.out.1.cell
          obtain ⟨q0, q1, q2, q3⟩ := hX8.out.1.four
          clear h1 h2 h3 hX7 hO7 hS7 hQ7 hk7
          go_wp2_with fail
          refine (ascending_any _ hH8.out.2.1 hH8.out.2.2.1 (by have := hasc.out.hp; rwa [List.length_append] at this) (List.Perm.refl _) hasc.out (by omega)).mono ?_
          rintro e w9 ⟨A9, c9, rfl, h1, h2⟩
          have hX9 := hid (hX8.out.kp h2 (fun b hb => by injection hb with hb; subst hb; exact hgb.out.1))
          have hS9 := hid (hS8.out.kp h2 (fun hb => by injection hb with hb; exact hgb.out.2 hb))
          have hD9 := hid (h2.own hD8.out (fun b hb hS => by injection hS with hS; exact (hDg.out b hb).1 hS.symm))
          have hP9 := hid h1
          have hz9 : Hid (W6.heap.size ≤ w9.heap.size) := hid (Nat.le_trans hz8.out h2.size)
          clear h1 h2 hX8 hS8 hD8 q0 q1 q2 q3 hc8
          obtain ⟨q0, q1, q2, q3⟩ := hX9.out.1.four
          obtain ⟨p0, p1, p2, p3⟩ := hX9.out.1.free4
          obtain ⟨r0, r1, r2, r3⟩ := hX9.out.2.1.four
          obtain ⟨s0, s1, s2, s3⟩ := hX9.out.2.2.1.two
          obtain ⟨v0, v1, v2, v3⟩ := hX9.out.2.1.free4
          obtain ⟨y0, y1, _, _⟩ := hS9.out.two
          have hfk := hid (((((Kp.refl (Hd w) w9).setCell (p := ⟨w.heap.size, 2, none⟩) (.inr (hd0 w)) (.slice A9 (P ++ [(m, (ck + 1, id), false)]).length c9)).set4 (hd1 w) (.int .i64 id) (.int .i64 (ck + 1)) (.slice A9 (P ++ [(m, (ck + 1, id), false)]).length c9) (.slice B2 D.length d2)).set2 (hd2 w) (.int .i64 (ck + 1)) (.int .i64 id)).drew)
          have hPl : (P ++ [(m, (ck + 1, id), false)]).length = P.length + 1 := by simp
          have hfo := hid (show OwG _ w.heap.size A9 (P ++ [(m, (ck + 1, id), false)]).length c9 B2 D.length d2 (P ++ [(m, (ck + 1, id), false)]) D from
            ⟨(hfk.out.own hP9.out (fun b hb hS => by have h8 := (hP9.out.lt b hb).1; have h9 := hS.2; have h10 := hz8.out; omega)).more (by have h10 := hz8.out; omega), (hfk.out.own hD9.out (fun b hb hS => by have h8 := (hO6.out.od.lt b hb).1; have h9 := hS.2; have h10 := hlo.out; omega)).more (by have h10 := hlo.out; omega), rfl, rfl, fun b h8 h9 => by
              have h10 := (hP9.out.lt b h8).1
              have h11 := (hDg.out b h9).2
              have h12 := hz8.out
              omega⟩)
          have hfb := hid (hX9.out.2.2.2.trans (hfk.out.base hX9.out.2.2.2.size (fun i h => h.1)))
          have hne9 : W6.heap.size ≠ w.heap.size := by omega
          have hne10 : W6.heap.size ≠ w.heap.size + 1 := by omega
          have hne11 : W6.heap.size ≠ w.heap.size + 1 + 1 := by omega
          rw [hPl] at hfk hfo hfb ⊢
          have hPl' := hid hPl
          clear hPl hX9 hS9 hD9 hP9
          go_wp2_with fail
          go_region
          go_wp2
          refine bodyPost_ret (v := .tuple #[gpV id (ck + 1) (.slice A9 (P.length + 1) c9) (.slice B2 D.length d2), two (ck + 1) id, .bool true]) (by simp [results, Try.results7, go_sem, r0, r1, r2, r3, s0, s1]) rfl ⟨A9, c9, B2, d2, by rw [hPl'.out], by rw [hPl'.out]; exact hfo.out, hfb.out⟩
end Go.Proofs.Ytbnmeedmeikepaa
