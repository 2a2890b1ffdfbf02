/-
  Contract of the model's GroupFinal. No condition but lengths below 2^40.
-/
import Derived.Test.YtbnmeedmeikepaaGmX
namespace Go.Proofs.Ytbnmeedmeikepaa
open Go.RowKit
set_option linter.unusedVariables false
set_option linter.unusedSimpArgs false

/-- the three blocks at the call's head: the group, the stamp, the result -/
def Fi3 (w W : World) (gc sc : Array Value) : Prop :=
  Cs W w.heap.size 25 gc ∧ Cs W (w.heap.size + 1) 29 sc ∧ Cs W (w.heap.size + 1 + 1) 25 #[.int .i64 0, .int .i64 0, .slice none 0 0, .slice none 0 0] ∧ Below w.heap.size w W

theorem Fi3.step {w W W' : World} {gc sc : Array Value} (h : Fi3 w W gc sc) (hb : Below W.heap.size W W') : Fi3 w W' gc sc := ⟨h.1.step hb, h.2.1.step hb, h.2.2.1.step hb, h.2.2.2.trans (hb.mono h.2.2.2.size)⟩

theorem Fi3.kp {w W W' : World} {gc sc : Array Value} {S : Nat → Prop} (h : Fi3 w W gc sc) (hk : Kp S W W') (hS : ∀ b, S b → w.heap.size + 1 + 1 < b) : Fi3 w W' gc sc :=
  ⟨h.1.kp hk (fun h => by have := hS _ h; omega), h.2.1.kp hk (fun h => by have := hS _ h; omega), h.2.2.1.kp hk (fun h => by have := hS _ h; omega), h.2.2.2.trans (hk.base h.2.2.2.size (fun i hi => by have := hS i hi; omega))⟩

theorem Fi3.new (w : World) (gc sc : Array Value) : Fi3 w (((w.alloc (.cells gc 25)).alloc (.cells sc 29)).alloc (.cells #[.int .i64 0, .int .i64 0, .slice none 0 0, .slice none 0 0] 25)) gc sc :=
  ⟨((Cs.new w _ _).alloc _).alloc _, (Cs.new' _ _ _ (by simp)).alloc _, Cs.new' _ _ _ (by simp), below3 w _ _ _⟩

theorem fi_off {g : Gp} {m : Int} {s : St} {id' ck' : Int} {P' D' : List En} {T' : List Int} {b' : Bool} (h : fiR g m s = (⟨id', ck', P', D'⟩, T', b')) (h0 : vdB g = false ∨ msB m = false ∨ okS s = false) : id' = 0 ∧ ck' = 0 ∧ P' = [] ∧ D' = [] ∧ T' = [] ∧ b' = false := by
  have e : (vdB g && (msB m && okS s)) = false := by rcases h0 with h | h | h <;> simp [h]
  unfold fiR at h
  rw [e] at h
  simp only [Bool.false_eq_true, if_false, gp0, Prod.mk.injEq, Gp.mk.injEq] at h
  exact ⟨h.1.1.symm, h.1.2.1.symm, h.1.2.2.1.symm, h.1.2.2.2.symm, h.2.1.symm, h.2.2.symm⟩

theorem fi_on {g : Gp} {m : Int} {s : St} (h1 : vdB g = true) (h2 : msB m = true) (h3 : okS s = true) : fiR g m s = fiA g m s := by
  unfold fiR; rw [h1, h2, h3]; rfl

theorem FiPost.ref {w w1 : World} {gc sc : Array Value} {id ck : Int} {A1 A2 : Option Addr} {d1 d2 : Nat} {P D : List En} (hX : Fi3 w w1 gc sc) (ho : OwG w1 (w.heap.size + 1 + 1 + 1) A1 P.length d1 A2 D.length d2 P D) :
    FiPost id ck false P D [] w (.returned (.tuple #[gpV id ck (.slice A1 P.length d1) (.slice A2 D.length d2), .slice (some ⟨w1.heap.size, 0, none⟩) 0 0, .bool false])) (((((w1.setCell ⟨w.heap.size + 1 + 1, 0, none⟩ (.int .i64 id)).setCell ⟨w.heap.size + 1 + 1, 1, none⟩ (.int .i64 ck)).setCell ⟨w.heap.size + 1 + 1, 2, none⟩ (.slice A1 P.length d1)).setCell ⟨w.heap.size + 1 + 1, 3, none⟩ (.slice A2 D.length d2)).alloc (.cells #[] 3)) := by
  have hfk := (Kp.refl (fun b => b = w.heap.size + 1 + 1) w1).set4 (b := w.heap.size + 1 + 1) rfl (.int .i64 id) (.int .i64 ck) (.slice A1 P.length d1) (.slice A2 D.length d2)
  have hs : ((((w1.setCell ⟨w.heap.size + 1 + 1, 0, none⟩ (.int .i64 id)).setCell ⟨w.heap.size + 1 + 1, 1, none⟩ (.int .i64 ck)).setCell ⟨w.heap.size + 1 + 1, 2, none⟩ (.slice A1 P.length d1)).setCell ⟨w.heap.size + 1 + 1, 3, none⟩ (.slice A2 D.length d2)).heap.size = w1.heap.size := by simp [World.setCell]
  have hz := hX.2.2.2.size
  have h1 := OwI.empty_lit (B := w.heap.size) ((((w1.setCell ⟨w.heap.size + 1 + 1, 0, none⟩ (.int .i64 id)).setCell ⟨w.heap.size + 1 + 1, 1, none⟩ (.int .i64 ck)).setCell ⟨w.heap.size + 1 + 1, 2, none⟩ (.slice A1 P.length d1)).setCell ⟨w.heap.size + 1 + 1, 3, none⟩ (.slice A2 D.length d2)) (by rw [hs]; exact hz)
  rw [hs] at h1
  exact ⟨A1, d1, A2, d2, some ⟨w1.heap.size, 0, none⟩, 0, rfl, ((ho.kp hfk (fun b hb h => by omega)).below (below1 _ _)).more (by omega), h1, (hX.2.2.2.trans (hfk.base hz (fun i h => by omega))).trans ((below1 _ _).mono (by rw [hs]; exact hz))⟩

set_option maxRecDepth 100000 in
set_option maxHeartbeats 8000000 in
theorem GroupFinal_spec {n1 c1 n2 c2 : Nat} {A1 A2 : Option Addr} {P D P' D' : List En} {T' : List Int} {id ck m st sg id' ck' : Int} {b' : Bool} (hR : fiR ⟨id, ck, P, D⟩ m (st, sg) = (⟨id', ck', P', D'⟩, T', b')) (w : World) (hr : RdG w A1 n1 c1 A2 n2 c2 P D) (hN : n1 + n2 + 1 < 1099511627776) :
    Calls Try.prog 14 #[gpV id ck (.slice A1 n1 c1) (.slice A2 n2 c2), .int .i64 m, two st sg] w (FiPost id' ck' b' P' D' T' w) := by
  have hX0 := hid (Fi3.new w #[.int .i64 id, .int .i64 ck, .slice A1 n1 c1, .slice A2 n2 c2] #[.int .i64 st, .int .i64 sg])
  have hr0 := hid (hr.below hX0.out.2.2.2)
  have hR' := hid hR
  clear hR hr
  cases hv : vdB ⟨id, ck, P, D⟩ with
  | false =>
    obtain ⟨rfl, rfl, rfl, rfl, rfl, rfl⟩ := fi_off hR'.out (.inl hv)
    have hv := hid hv
    go_enter Try.func14, Try.ntmps14
    go_wp2_with fail
    refine (GroupValidS_as hv.out _ hr0.out).mono ?_
    rintro e w1 ⟨rfl, hb1⟩
    have hX1 := hid (hX0.out.step hb1)
    obtain ⟨r0, r1, r2, r3⟩ := hX1.out.2.2.1.four
    obtain ⟨u0, u1, u2, u3⟩ := hX1.out.2.2.1.free4
    have hz1 := hX1.out.2.2.1.lt
    have hend : Hid (FiPost 0 0 false [] [] [] w (.returned (.tuple #[gpV 0 0 (.slice none 0 0) (.slice none 0 0), .slice (some ⟨w1.heap.size, 0, none⟩) 0 0, .bool false])) (((((w1.setCell ⟨w.heap.size + 1 + 1, 0, none⟩ (.int .i64 0)).setCell ⟨w.heap.size + 1 + 1, 1, none⟩ (.int .i64 0)).setCell ⟨w.heap.size + 1 + 1, 2, none⟩ (.slice none 0 0)).setCell ⟨w.heap.size + 1 + 1, 3, none⟩ (.slice none 0 0)).alloc (.cells #[] 3))) := hid (FiPost.ref hX1.out (own_nil _ _))
    have hy := hid (((hX1.out.2.2.1.set4 (.int .i64 0) (.int .i64 0) (.slice none 0 0) (.slice none 0 0)).alloc (.cells #[] 3)).four)
    clear hb1 hX1
    go_wp2_with (exact bodyPost_ret (v := .tuple #[gpV 0 0 (.slice none 0 0) (.slice none 0 0), .slice (some ⟨w1.heap.size, 0, none⟩) 0 0, .bool false]) (by simp [results, Try.results14, go_sem, hy.out.1, hy.out.2.1, hy.out.2.2.1, hy.out.2.2.2]) rfl hend.out)
  | true =>
    cases hM : msB m with
    | false =>
      obtain ⟨rfl, rfl, rfl, rfl, rfl, rfl⟩ := fi_off hR'.out (.inr (.inl hM))
      have hv := hid hv
      have hM := hid hM
      go_enter Try.func14, Try.ntmps14
      go_wp2_with fail
      refine (GroupValidS_as hv.out _ hr0.out).mono ?_
      rintro e w1 ⟨rfl, hb1⟩
      go_wp2_with fail
      refine (l11Message_as hM.out _).mono ?_
      rintro e w2 ⟨rfl, rfl⟩
      have hX1 := hid (hX0.out.step hb1)
      obtain ⟨r0, r1, r2, r3⟩ := hX1.out.2.2.1.four
      obtain ⟨u0, u1, u2, u3⟩ := hX1.out.2.2.1.free4
      have hz1 := hX1.out.2.2.1.lt
      have hend : Hid (FiPost 0 0 false [] [] [] w (.returned (.tuple #[gpV 0 0 (.slice none 0 0) (.slice none 0 0), .slice (some ⟨w1.heap.size, 0, none⟩) 0 0, .bool false])) (((((w1.setCell ⟨w.heap.size + 1 + 1, 0, none⟩ (.int .i64 0)).setCell ⟨w.heap.size + 1 + 1, 1, none⟩ (.int .i64 0)).setCell ⟨w.heap.size + 1 + 1, 2, none⟩ (.slice none 0 0)).setCell ⟨w.heap.size + 1 + 1, 3, none⟩ (.slice none 0 0)).alloc (.cells #[] 3))) := hid (FiPost.ref hX1.out (own_nil _ _))
      have hy := hid (((hX1.out.2.2.1.set4 (.int .i64 0) (.int .i64 0) (.slice none 0 0) (.slice none 0 0)).alloc (.cells #[] 3)).four)
      clear hb1 hX1
      go_wp2_with (exact bodyPost_ret (v := .tuple #[gpV 0 0 (.slice none 0 0) (.slice none 0 0), .slice (some ⟨w1.heap.size, 0, none⟩) 0 0, .bool false]) (by simp [results, Try.results14, go_sem, hy.out.1, hy.out.2.1, hy.out.2.2.1, hy.out.2.2.2]) rfl hend.out)
    | true =>
      cases hS : stB st sg with
      | false =>
        obtain ⟨rfl, rfl, rfl, rfl, rfl, rfl⟩ := fi_off hR'.out (.inr (.inr hS))
        have hv := hid hv
        have hM := hid hM
        have hS := hid hS
        go_enter Try.func14, Try.ntmps14
        go_wp2_with fail
        refine (GroupValidS_as hv.out _ hr0.out).mono ?_
        rintro e w0 ⟨rfl, hb0⟩
        have hX9 := hid (hX0.out.step hb0)
        obtain ⟨s0, s1, _, _⟩ := hX9.out.2.1.two
        go_wp2_with fail
        refine (l11Message_as hM.out _).mono ?_
        rintro e w2 ⟨rfl, rfl⟩
        go_wp2_with fail
        refine (StampValid_as hS.out _).mono ?_
        rintro e w1 ⟨rfl, hb2⟩
        have hb1 := hb0.trans (hb2.mono hb0.size)
        clear hb2 hb0 s0 s1
        have hX1 := hid (hX0.out.step hb1)
        obtain ⟨r0, r1, r2, r3⟩ := hX1.out.2.2.1.four
        obtain ⟨u0, u1, u2, u3⟩ := hX1.out.2.2.1.free4
        have hz1 := hX1.out.2.2.1.lt
        have hend : Hid (FiPost 0 0 false [] [] [] w (.returned (.tuple #[gpV 0 0 (.slice none 0 0) (.slice none 0 0), .slice (some ⟨w1.heap.size, 0, none⟩) 0 0, .bool false])) (((((w1.setCell ⟨w.heap.size + 1 + 1, 0, none⟩ (.int .i64 0)).setCell ⟨w.heap.size + 1 + 1, 1, none⟩ (.int .i64 0)).setCell ⟨w.heap.size + 1 + 1, 2, none⟩ (.slice none 0 0)).setCell ⟨w.heap.size + 1 + 1, 3, none⟩ (.slice none 0 0)).alloc (.cells #[] 3))) := hid (FiPost.ref hX1.out (own_nil _ _))
        have hy := hid (((hX1.out.2.2.1.set4 (.int .i64 0) (.int .i64 0) (.slice none 0 0) (.slice none 0 0)).alloc (.cells #[] 3)).four)
        clear hb1 hX1
        go_wp2_with (exact bodyPost_ret (v := .tuple #[gpV 0 0 (.slice none 0 0) (.slice none 0 0), .slice (some ⟨w1.heap.size, 0, none⟩) 0 0, .bool false]) (by simp [results, Try.results14, go_sem, hy.out.1, hy.out.2.1, hy.out.2.2.1, hy.out.2.2.2]) rfl hend.out)
      | true =>
        have hpr : Hid (fiA ⟨id, ck, P, D⟩ m (st, sg) = (⟨id', ck', P', D'⟩, T', b')) := hid ((fi_on (s := (st, sg)) hv hM hS).symm.trans hR'.out)
        have hv := hid hv
        have hM := hid hM
        have hS := hid hS
        go_enter Try.func14, Try.ntmps14
        go_wp2_with fail
        refine (GroupValidS_as hv.out _ hr0.out).mono ?_
        rintro e w0 ⟨rfl, hb0⟩
        have hX9 := hid (hX0.out.step hb0)
        obtain ⟨s0, s1, _, _⟩ := hX9.out.2.1.two
        go_wp2_with fail
        refine (l11Message_as hM.out _).mono ?_
        rintro e w2 ⟨rfl, rfl⟩
        go_wp2_with fail
        refine (StampValid_as hS.out _).mono ?_
        rintro e w1 ⟨rfl, hb2⟩
        have hb1 := hb0.trans (hb2.mono hb0.size)
        clear hb2 hb0 s0 s1
        have hX1 := hid (hX0.out.step hb1)
        have hr1 := hid (hr0.out.below hb1)
        obtain ⟨q0, q1, q2, q3⟩ := hX1.out.1.four
        obtain ⟨s0, s1, _, _⟩ := hX1.out.2.1.two
        clear hb1 hX9
        go_wp2_with fail
        refine (l11Final_as hpr.out _ hr1.out hN).mono ?_
        rintro e w2 ⟨B1, d1, B2, d2, B3, d3, rfl, ho2, ht2, hb2⟩
        have hX2 := hid (hX1.out.step hb2)
        have hz1 : w.heap.size + 1 + 1 < w1.heap.size := hX1.out.2.2.1.lt
        have hO2 := hid ho2
        have hT2 := hid ht2
        obtain ⟨r0, r1, r2, r3⟩ := hX2.out.2.2.1.four
        obtain ⟨u0, u1, u2, u3⟩ := hX2.out.2.2.1.free4
        have hfk := hid ((Kp.refl (fun b => b = w.heap.size + 1 + 1) w2).set4 (b := w.heap.size + 1 + 1) rfl (.int .i64 id') (.int .i64 ck') (.slice B1 P'.length d1) (.slice B2 D'.length d2))
        have hend : Hid (FiPost id' ck' b' P' D' T' w (.returned (.tuple #[gpV id' ck' (.slice B1 P'.length d1) (.slice B2 D'.length d2), .slice B3 T'.length d3, .bool b'])) ((((w2.setCell ⟨w.heap.size + 1 + 1, 0, none⟩ (.int .i64 id')).setCell ⟨w.heap.size + 1 + 1, 1, none⟩ (.int .i64 ck')).setCell ⟨w.heap.size + 1 + 1, 2, none⟩ (.slice B1 P'.length d1)).setCell ⟨w.heap.size + 1 + 1, 3, none⟩ (.slice B2 D'.length d2))) := hid
          ⟨B1, d1, B2, d2, B3, d3, rfl, (hO2.out.kp hfk.out (fun b hb h => by omega)).more (by omega), (hfk.out.ownI hT2.out (fun b hb h => by have := (hT2.out.lt b hb).1; omega)).more (by omega), hX2.out.2.2.2.trans (hfk.out.base hX2.out.2.2.2.size (fun i h => by omega))⟩
        clear ho2 ht2 hb2 hX2 hO2 hT2 hfk q0 q1 q2 q3 s0 s1
        go_wp2_with (exact bodyPost_ret (v := .tuple #[gpV id' ck' (.slice B1 P'.length d1) (.slice B2 D'.length d2), .slice B3 T'.length d3, .bool b']) (by simp [results, Try.results14, go_sem, r0, r1, r2, r3]) rfl hend.out)
end Go.Proofs.Ytbnmeedmeikepaa
