/-
  Contract of the program's GroupFinal. No condition but lengths below 2^40.
-/
import Derived.Test.YtbnmeedmeikepaaGmY
import Derived.Test.YtbnmeedmeikepaaGmXs
namespace Go.Proofs.Ytbnmeedmeikepaa
open Go.RowKit
set_option linter.unusedVariables false
set_option linter.unusedSimpArgs false

theorem HMs.mk_ {w : World} {lo hb g n c : Nat} {zs : List En} (h1 : Bx w hb 56 (.slice (some ⟨g, 0, none⟩) n c)) (h2 : OwE w lo (.slice (some ⟨g, 0, none⟩) n c) zs) (h3 : zs.length = n) (h4 : g ≠ hb) : HMs w lo hb g n c zs := ⟨h1, h2, h3, h4⟩
/-- the program's loop that delivers: the heap holds the rest of I, Done its head -/
structure FM (w W : World) (hb gb : Nat) (st sg id ck : Int) (vP : Value) (I D : List En) (c j jd jt : Nat) (dA : Option Addr) (dc : Nat) (tA : Option Addr) (tc : Nat) : Prop where
  g0 : Cs W w.heap.size 25 #[.int .i64 id, .int .i64 ck, vP, .slice dA (D.length + jd) dc]
  s0 : Cs W (w.heap.size + 1) 29 #[.int .i64 st, .int .i64 sg]
  r0 : Cs W (w.heap.size + 1 + 1) 25 #[.int .i64 0, .int .i64 0, .slice none 0 0, .slice none 0 0]
  bl : Below w.heap.size w W
  hp : HpIs W (w.heap.size + 1 + 1 + 1) hb gb (I.length - j) c (I.drop j)
  dn : OwE W (w.heap.size + 1 + 1 + 1) (.slice dA (D.length + jd) dc) (D ++ I.take jd)
  td : OwI W (w.heap.size + 1 + 1 + 1) (.slice tA jt tc) (msgs (I.take jt))
  hl : w.heap.size + 1 + 1 < hb
  gl : w.heap.size + 1 + 1 < gb
  n2 : ∀ b, (Value.slice tA jt tc).ownBlock = some b → b ≠ hb ∧ b ≠ gb
  n3 : ∀ b, (Value.slice dA (D.length + jd) dc).ownBlock = some b → b ≠ hb ∧ b ≠ gb ∧ (Value.slice tA jt tc).ownBlock ≠ some b
section
variable {w W W' : World} {hb gb : Nat} {st sg id ck : Int} {vP : Value} {I D : List En} {c j jd jt : Nat} {dA : Option Addr} {dc : Nat} {tA : Option Addr} {tc : Nat}

theorem HpIs.hlt {w : World} {lo hb g n c : Nat} {S : List En} (h : HpIs w lo hb g n c S) : hb < w.heap.size ∧ g < w.heap.size := by
  obtain ⟨zs, h1, _⟩ := h
  exact ⟨h1.1.lt, h1.lt⟩

theorem FM.below (h : FM w W hb gb st sg id ck vP I D c j jd jt dA dc tA tc) (hk : Below W.heap.size W W') : FM w W' hb gb st sg id ck vP I D c j jd jt dA dc tA tc :=
  ⟨h.g0.step hk, h.s0.step hk, h.r0.step hk, h.bl.trans (hk.mono h.bl.size), h.hp.below hk, h.dn.below hk, own_of_block h.td (fun g hg => hk.block g (h.td.lt g hg).2), h.hl, h.gl, h.n2, h.n3⟩

theorem FM.take_ (h : FM w W hb gb st sg id ck vP I D c j jd jt dA dc tA tc) (hk : Kp (fun k => k = hb ∨ k = gb) W W') (hp : HpIs W' (w.heap.size + 1 + 1 + 1) hb gb (I.length - (j + 1)) c (I.drop (j + 1))) : FM w W' hb gb st sg id ck vP I D c (j + 1) jd jt dA dc tA tc := by
  have h1 := h.hl
  have h2 := h.gl
  exact ⟨h.g0.kp hk (by omega), h.s0.kp hk (by omega), h.r0.kp hk (by omega), h.bl.trans (hk.base h.bl.size (fun i hi => by omega)), hp, hk.own h.dn (fun b hb2 hS => by
    have := h.n3 b hb2
    rcases hS with hS | hS
    · exact this.1 hS
    · exact this.2.1 hS), hk.ownI h.td (fun b hb2 hS => by
    have := h.n2 b hb2
    rcases hS with hS | hS
    · exact this.1 hS
    · exact this.2 hS), h.hl, h.gl, h.n2, h.n3⟩

theorem FM.told (h : FM w W hb gb st sg id ck vP I D c j jd jt dA dc tA tc) {tA' : Option Addr} {tc' : Nat} (hk : Kp (fun b => (Value.slice tA jt tc).ownBlock = some b) W W') (ho : OwI W' (w.heap.size + 1 + 1 + 1) (.slice tA' (jt + 1) tc') (msgs (I.take (jt + 1))))
    (hv : (Value.slice tA' (jt + 1) tc').ownBlock = (Value.slice tA jt tc).ownBlock ∨ ∃ B, W.heap.size ≤ B ∧ (Value.slice tA' (jt + 1) tc').ownBlock = some B) : FM w W' hb gb st sg id ck vP I D c j jd (jt + 1) dA dc tA' tc' := by
  have hlt := h.hp.hlt
  have ht : ∀ k, k < w.heap.size + 1 + 1 + 1 → ¬ (Value.slice tA jt tc).ownBlock = some k := fun k hk2 e => by have := (h.td.lt k e).1; omega
  refine ⟨h.g0.kp hk (ht _ (by omega)), h.s0.kp hk (ht _ (by omega)), h.r0.kp hk (ht _ (by omega)), h.bl.trans (hk.base h.bl.size (fun i hi => by have := (h.td.lt i hi).1; omega)), h.hp.kp hk (fun e => (h.n2 _ e).1 rfl) (fun e => (h.n2 _ e).2 rfl), hk.own h.dn (fun b hb2 hS => (h.n3 b hb2).2.2 hS), ho, h.hl, h.gl, fun b hb2 => ?_, fun b hb2 => ⟨(h.n3 b hb2).1, (h.n3 b hb2).2.1, fun e => ?_⟩⟩
  · rcases hv with hv | ⟨B, hB, hv⟩
    · exact h.n2 b (hv.symm.trans hb2)
    · rw [hv] at hb2; injection hb2 with hb2; subst hb2
      exact ⟨by omega, by omega⟩
  · rcases hv with hv | ⟨B, hB, hv⟩
    · exact (h.n3 b hb2).2.2 (hv.symm.trans e)
    · rw [hv] at e; injection e with e; subst e
      have := (h.dn.lt _ hb2).2; omega

theorem FM.done (h : FM w W hb gb st sg id ck vP I D c j jd jt dA dc tA tc) {dA' : Option Addr} {dc' : Nat} (hk : Kp (fun b => (Value.slice dA (D.length + jd) dc).ownBlock = some b) W W') (ho : OwE W' (w.heap.size + 1 + 1 + 1) (.slice dA' (D.length + (jd + 1)) dc') (D ++ I.take (jd + 1)))
    (hv : (Value.slice dA' (D.length + (jd + 1)) dc').ownBlock = (Value.slice dA (D.length + jd) dc).ownBlock ∨ ∃ B, W.heap.size ≤ B ∧ (Value.slice dA' (D.length + (jd + 1)) dc').ownBlock = some B) : FM w (W'.setCell ⟨w.heap.size, 3, none⟩ (.slice dA' (D.length + (jd + 1)) dc')) hb gb st sg id ck vP I D c j (jd + 1) jt dA' dc' tA tc := by
  have hlt := h.hp.hlt
  have h1 := h.hl
  have h2 := h.gl
  have ht : ∀ k, k < w.heap.size + 1 + 1 + 1 → ¬ (Value.slice dA (D.length + jd) dc).ownBlock = some k := fun k hk2 e => by have := (h.dn.lt k e).1; omega
  have hk2 : Kp (fun b => (Value.slice dA (D.length + jd) dc).ownBlock = some b ∨ b = w.heap.size) W (W'.setCell ⟨w.heap.size, 3, none⟩ (.slice dA' (D.length + (jd + 1)) dc')) := (hk.mono (fun i hi => .inl hi)).setCell (.inr (.inr rfl)) _
  refine ⟨(h.g0.kp hk (ht _ (by omega))).set 3 _, (h.s0.kp hk (ht _ (by omega))).far (by simp) _, (h.r0.kp hk (ht _ (by omega))).far (by simp; omega) _, h.bl.trans (hk2.base h.bl.size (fun i hi => by
    rcases hi with hi | hi
    · have := (h.dn.lt i hi).1; omega
    · omega)), h.hp.kp hk2 (fun e => ?_) (fun e => ?_), ho.setFar (fun e => by have := (ho.lt _ e).1; simp at this; omega) _, hk2.ownI h.td (fun b hb2 hS => ?_), h.hl, h.gl, h.n2, fun b hb2 => ?_⟩
  · rcases e with e | e
    · exact (h.n3 _ e).1 rfl
    · omega
  · rcases e with e | e
    · exact (h.n3 _ e).2.1 rfl
    · omega
  · rcases hS with hS | hS
    · exact (h.n3 b hS).2.2 hb2
    · have := (h.td.lt b hb2).1; omega
  · rcases hv with hv | ⟨B, hB, hv⟩
    · exact h.n3 b (hv.symm.trans hb2)
    · rw [hv] at hb2; injection hb2 with hb2; subst hb2
      exact ⟨by omega, by omega, fun e => by have := (h.td.lt _ e).2; omega⟩
end

def Fh (w : World) (b : Nat) : Prop := b = w.heap.size ∨ b = w.heap.size + 1 + 1

set_option maxRecDepth 100000 in
set_option maxHeartbeats 16000000 in
theorem GroupFinal_impl {n1 c1 n2 c2 : Nat} {A1 A2 : Option Addr} {P D P' D' : List En} {T' : List Int} {id ck m st sg id' ck' : Int} {b' : Bool} (hR : fiR ⟨id, ck, P, D⟩ m (st, sg) = (⟨id', ck', P', D'⟩, T', b')) (w : World) (hr : RdG w A1 n1 c1 A2 n2 c2 P D) (hN : n1 + n2 + 1 < 1099511627776) :
    Calls Try.prog 13 #[gpV id ck (.slice A1 n1 c1) (.slice A2 n2 c2), .int .i64 m, two st sg] w (FiPost id' ck' b' P' D' T' w) := by
  have hX0 := hid (Fi3.new w #[.int .i64 id, .int .i64 ck, .slice A1 n1 c1, .slice A2 n2 c2] #[.int .i64 st, .int .i64 sg])
  have hr0 := hid (hr.below hX0.out.2.2.2)
  have hl1 := hid hr.rp.len
  have hl2 := hid hr.rd.len
  have hh1 := hr.h1
  have hh2 := hr.h2
  have hR' := hid hR
  clear hR hr
  cases hv : vdB ⟨id, ck, P, D⟩ with
  | false =>
    obtain ⟨rfl, rfl, rfl, rfl, rfl, rfl⟩ := fi_off hR'.out (.inl hv)
    have hv := hid hv
    go_enter Try.func13, Try.ntmps13
    go_wp2_with fail
    refine (GroupValidI_as hv.out _ hr0.out).mono ?_
    rintro e w1 ⟨rfl, hb1⟩
    have hX1 := hid (hX0.out.step hb1)
    obtain ⟨r0, r1, r2, r3⟩ := hX1.out.2.2.1.four
    obtain ⟨u0, u1, u2, u3⟩ := hX1.out.2.2.1.free4
    have hz1 := hX1.out.2.2.1.lt
    have hend : Hid (FiPost 0 0 false [] [] [] w (.returned (.tuple #[gpV 0 0 (.slice none 0 0) (.slice none 0 0), .slice (some ⟨w1.heap.size, 0, none⟩) 0 0, .bool false])) (((((w1.setCell ⟨w.heap.size + 1 + 1, 0, none⟩ (.int .i64 0)).setCell ⟨w.heap.size + 1 + 1, 1, none⟩ (.int .i64 0)).setCell ⟨w.heap.size + 1 + 1, 2, none⟩ (.slice none 0 0)).setCell ⟨w.heap.size + 1 + 1, 3, none⟩ (.slice none 0 0)).alloc (.cells #[] 3))) := hid (FiPost.ref hX1.out (own_nil _ _))
    have hy := hid (((hX1.out.2.2.1.set4 (.int .i64 0) (.int .i64 0) (.slice none 0 0) (.slice none 0 0)).alloc (.cells #[] 3)).four)
    clear hb1 hX1
    go_wp2_with (exact bodyPost_ret (v := .tuple #[gpV 0 0 (.slice none 0 0) (.slice none 0 0), .slice (some ⟨w1.heap.size, 0, none⟩) 0 0, .bool false]) (by simp [results, Try.results13, go_sem, hy.out.1, hy.out.2.1, hy.out.2.2.1, hy.out.2.2.2]) rfl hend.out)
  | true =>
    cases hM : msB m with
    | false =>
      obtain ⟨rfl, rfl, rfl, rfl, rfl, rfl⟩ := fi_off hR'.out (.inr (.inl hM))
      have hv := hid hv
      have hM := hid hM
      cases hS : stB st sg with
      | false =>
        have hS := hid hS
        go_enter Try.func13, Try.ntmps13
        go_wp2_with fail
        refine (GroupValidI_as hv.out _ hr0.out).mono ?_
        rintro e w0 ⟨rfl, hb0⟩
        have hX9 := hid (hX0.out.step hb0)
        obtain ⟨s0, s1, -, -⟩ := hX9.out.2.1.two
        go_wp2_with fail
        refine (StampValidI_as hS.out _).mono ?_
        rintro e w1 ⟨rfl, hb2⟩
        have hb1 := hb0.trans (hb2.mono hb0.size)
        clear hb2 hb0 s0 s1 hX9
        have hX1 := hid (hX0.out.step hb1)
        obtain ⟨r0, r1, r2, r3⟩ := hX1.out.2.2.1.four
        obtain ⟨u0, u1, u2, u3⟩ := hX1.out.2.2.1.free4
        have hz1 := hX1.out.2.2.1.lt
        have hend : Hid (FiPost 0 0 false [] [] [] w (.returned (.tuple #[gpV 0 0 (.slice none 0 0) (.slice none 0 0), .slice (some ⟨w1.heap.size, 0, none⟩) 0 0, .bool false])) (((((w1.setCell ⟨w.heap.size + 1 + 1, 0, none⟩ (.int .i64 0)).setCell ⟨w.heap.size + 1 + 1, 1, none⟩ (.int .i64 0)).setCell ⟨w.heap.size + 1 + 1, 2, none⟩ (.slice none 0 0)).setCell ⟨w.heap.size + 1 + 1, 3, none⟩ (.slice none 0 0)).alloc (.cells #[] 3))) := hid (FiPost.ref hX1.out (own_nil _ _))
        have hy := hid (((hX1.out.2.2.1.set4 (.int .i64 0) (.int .i64 0) (.slice none 0 0) (.slice none 0 0)).alloc (.cells #[] 3)).four)
        clear hb1 hX1
        go_wp2_with (exact bodyPost_ret (v := .tuple #[gpV 0 0 (.slice none 0 0) (.slice none 0 0), .slice (some ⟨w1.heap.size, 0, none⟩) 0 0, .bool false]) (by simp [results, Try.results13, go_sem, hy.out.1, hy.out.2.1, hy.out.2.2.1, hy.out.2.2.2]) rfl hend.out)
      | true =>
        have hS := hid hS
        go_enter Try.func13, Try.ntmps13
        go_wp2_with fail
        refine (GroupValidI_as hv.out _ hr0.out).mono ?_
        rintro e w0 ⟨rfl, hb0⟩
        have hX9 := hid (hX0.out.step hb0)
        obtain ⟨s0, s1, -, -⟩ := hX9.out.2.1.two
        go_wp2_with fail
        refine (StampValidI_as hS.out _).mono ?_
        rintro e w1 ⟨rfl, hb2⟩
        have hb1 := hb0.trans (hb2.mono hb0.size)
        clear hb2 hb0 s0 s1 hX9
        go_wp2_with fail
        refine (messageExists_as hM.out _).mono ?_
        rintro e w2 ⟨rfl, rfl⟩
        have hX1 := hid (hX0.out.step hb1)
        obtain ⟨r0, r1, r2, r3⟩ := hX1.out.2.2.1.four
        obtain ⟨u0, u1, u2, u3⟩ := hX1.out.2.2.1.free4
        have hz1 := hX1.out.2.2.1.lt
        have hend : Hid (FiPost 0 0 false [] [] [] w (.returned (.tuple #[gpV 0 0 (.slice none 0 0) (.slice none 0 0), .slice (some ⟨w1.heap.size, 0, none⟩) 0 0, .bool false])) (((((w1.setCell ⟨w.heap.size + 1 + 1, 0, none⟩ (.int .i64 0)).setCell ⟨w.heap.size + 1 + 1, 1, none⟩ (.int .i64 0)).setCell ⟨w.heap.size + 1 + 1, 2, none⟩ (.slice none 0 0)).setCell ⟨w.heap.size + 1 + 1, 3, none⟩ (.slice none 0 0)).alloc (.cells #[] 3))) := hid (FiPost.ref hX1.out (own_nil _ _))
        have hy := hid (((hX1.out.2.2.1.set4 (.int .i64 0) (.int .i64 0) (.slice none 0 0) (.slice none 0 0)).alloc (.cells #[] 3)).four)
        clear hb1 hX1
        go_wp2_with (exact bodyPost_ret (v := .tuple #[gpV 0 0 (.slice none 0 0) (.slice none 0 0), .slice (some ⟨w1.heap.size, 0, none⟩) 0 0, .bool false]) (by simp [results, Try.results13, go_sem, hy.out.1, hy.out.2.1, hy.out.2.2.1, hy.out.2.2.2]) rfl hend.out)
    | true =>
      cases hS : stB st sg with
      | false =>
        obtain ⟨rfl, rfl, rfl, rfl, rfl, rfl⟩ := fi_off hR'.out (.inr (.inr hS))
        have hv := hid hv
        have hM := hid hM
        have hS := hid hS
        go_enter Try.func13, Try.ntmps13
        go_wp2_with fail
        refine (GroupValidI_as hv.out _ hr0.out).mono ?_
        rintro e w0 ⟨rfl, hb0⟩
        have hX9 := hid (hX0.out.step hb0)
        obtain ⟨s0, s1, -, -⟩ := hX9.out.2.1.two
        go_wp2_with fail
        refine (StampValidI_as hS.out _).mono ?_
        rintro e w1 ⟨rfl, hb2⟩
        have hb1 := hb0.trans (hb2.mono hb0.size)
        clear hb2 hb0 s0 s1 hX9
        have hX1 := hid (hX0.out.step hb1)
        obtain ⟨r0, r1, r2, r3⟩ := hX1.out.2.2.1.four
        obtain ⟨u0, u1, u2, u3⟩ := hX1.out.2.2.1.free4
        have hz1 := hX1.out.2.2.1.lt
        have hend : Hid (FiPost 0 0 false [] [] [] w (.returned (.tuple #[gpV 0 0 (.slice none 0 0) (.slice none 0 0), .slice (some ⟨w1.heap.size, 0, none⟩) 0 0, .bool false])) (((((w1.setCell ⟨w.heap.size + 1 + 1, 0, none⟩ (.int .i64 0)).setCell ⟨w.heap.size + 1 + 1, 1, none⟩ (.int .i64 0)).setCell ⟨w.heap.size + 1 + 1, 2, none⟩ (.slice none 0 0)).setCell ⟨w.heap.size + 1 + 1, 3, none⟩ (.slice none 0 0)).alloc (.cells #[] 3))) := hid (FiPost.ref hX1.out (own_nil _ _))
        have hy := hid (((hX1.out.2.2.1.set4 (.int .i64 0) (.int .i64 0) (.slice none 0 0) (.slice none 0 0)).alloc (.cells #[] 3)).four)
        clear hb1 hX1
        go_wp2_with (exact bodyPost_ret (v := .tuple #[gpV 0 0 (.slice none 0 0) (.slice none 0 0), .slice (some ⟨w1.heap.size, 0, none⟩) 0 0, .bool false]) (by simp [results, Try.results13, go_sem, hy.out.1, hy.out.2.1, hy.out.2.2.1, hy.out.2.2.2]) rfl hend.out)
      | true =>
        have hpr : Hid (fiA ⟨id, ck, P, D⟩ m (st, sg) = (⟨id', ck', P', D'⟩, T', b')) := hid ((fi_on (s := (st, sg)) hv hM hS).symm.trans hR'.out)
        have hV := hid (vdB_true.1 hv)
        have hv := hid hv
        have hM := hid hM
        have hS := hid hS
        go_enter Try.func13, Try.ntmps13
        go_wp2_with fail
        refine (GroupValidI_as hv.out _ hr0.out).mono ?_
        rintro e w0 ⟨rfl, hb0⟩
        have hX9 := hid (hX0.out.step hb0)
        obtain ⟨s0, s1, -, -⟩ := hX9.out.2.1.two
        go_wp2_with fail
        refine (StampValidI_as hS.out _).mono ?_
        rintro e w1 ⟨rfl, hb2⟩
        have hb1 := hb0.trans (hb2.mono hb0.size)
        clear hb2 hb0 s0 s1 hX9
        have hX1 := hid (hX0.out.step hb1)
        have hr1 := hid (hr0.out.below hb1)
        obtain ⟨q0, q1, q2, q3⟩ := hX1.out.1.four
        clear hb1 hX0 hr0
        go_wp2_with fail
        refine (messageExists_as hM.out _).mono ?_
        rintro e w2 ⟨rfl, rfl⟩
        go_wp2_with fail
        refine (copied_any id ck _ hr1.out).mono ?_
        rintro e w3 ⟨B1, d1, B2, d2, rfl, ho3, hb3⟩
        have hz1 : w.heap.size + 1 + 1 < w1.heap.size := hX1.out.2.2.1.lt
        have hX3 := hid (hX1.out.step hb3)
        have hO3 := hid ho3
        obtain ⟨q0, q1, q2, q3⟩ := hX3.out.1.four
        obtain ⟨u0, u1, u2, u3⟩ := hX3.out.1.free4
        have hk4 := hid ((Kp.refl (Fh w) w3).set4 (b := w.heap.size) (.inl rfl) (.int .i64 id) (.int .i64 ck) (.slice B1 P.length d1) (.slice B2 D.length d2))
        have hz3 := hb3.size
        clear ho3 hb3 hX1 hr1
        obtain ⟨W5, hW5⟩ : ∃ W, ((((w3.setCell ⟨w.heap.size, 0, none⟩ (.int .i64 id)).setCell ⟨w.heap.size, 1, none⟩ (.int .i64 ck)).setCell ⟨w.heap.size, 2, none⟩ (.slice B1 P.length d1)).setCell ⟨w.heap.size, 3, none⟩ (.slice B2 D.length d2)) = W := ⟨_, rfl⟩
        have hs5 : W5.heap.size = w3.heap.size := by rw [← hW5]; simp [World.setCell]
        have hk5 := hk4.out
        have hX5 : Hid (Fi3 w W5 #[.int .i64 id, .int .i64 ck, .slice B1 P.length d1, .slice B2 D.length d2] #[.int .i64 st, .int .i64 sg]) := hid (by
          rw [← hW5]
          refine ⟨hX3.out.1.set4 _ _ _ _, ?_, ?_, hX3.out.2.2.2.trans (hk4.out.base hX3.out.2.2.2.size (fun i h => by rcases h with h | h <;> omega))⟩
          · exact (((hX3.out.2.1.far (by simp) _).far (by simp) _).far (by simp) _).far (by simp) _
          · exact (((hX3.out.2.2.1.far (by simp; omega) _).far (by simp; omega) _).far (by simp; omega) _).far (by simp; omega) _)
        rw [hW5] at hk5
        have hO5 := hid (hO3.out.kp hk5 (fun b hb h => by rcases h with h | h <;> omega))
        have hW5' := hid hW5
        have hs5' := hid hs5
        have hz5 : w.heap.size + 1 + 1 < W5.heap.size := by omega
        clear hk4 hk5 hX3 hO3 hW5 hs5
        go_upto_region 4 with (fail)
        rw [hW5'.out]
        clear q0 q1 q2 q3 u0 u1 u2 u3
        have hb6 := below1 W5 (.cells #[.slice B1 P.length d1] 56)
        have hX6 := hid (hX5.out.step hb6)
        have hO6 := hid (hO5.out.below hb6)
        have hBx6 := hid (Bx.new W5 56 (.slice B1 P.length d1))
        obtain ⟨W6, hW6⟩ : ∃ W, W5.alloc (.cells #[.slice B1 P.length d1] 56) = W := ⟨_, rfl⟩
        have hs6 : W6.heap.size = W5.heap.size + 1 := by rw [← hW6]; simp
        rw [hW6] at hX6 hO6 hBx6
        have hBP := hid (show ∀ b, (Value.slice B1 P.length d1).ownBlock = some b → w1.heap.size ≤ b ∧ b < W5.heap.size from fun b hb => hO5.out.op.lt b hb)
        have hBD := hid (show ∀ b, (Value.slice B2 D.length d2).ownBlock = some b → w1.heap.size ≤ b ∧ b < W5.heap.size from fun b hb => hO5.out.od.lt b hb)
        have hne := hid hO5.out.ne
        obtain ⟨q0, q1, q2, q3⟩ := hX5.out.1.four
        have hW6' := hid hW6
        clear hb6 hW6 hO5 hW5' hs5'
        go_upto_region 5 with (fail)
        rw [hW6'.out]
        clear q0 q1 q2 q3 hX5
        obtain ⟨s0, s1, -, -⟩ := hX6.out.2.1.two
        have hc6 := hBx6.out.cell
        obtain ⟨r, hr⟩ : ∃ r, fxR ⟨id, ck, P, D⟩ m (st, sg) = r := ⟨_, rfl⟩
        replace hr := hid hr
        have hrp6 := hid (hO6.out.op.rd rfl)
        go_wp2_with fail
        refine (finalIndex_as hV.out hr.out _ hrp6.out (by have := hl1.out; omega)).mono ?_
        rintro e w7 ⟨rfl, hb7⟩
        have hX7 := hid (hX6.out.step hb7)
        have hO7 := hid (hO6.out.below hb7)
        have hBx7 := hid (hBx6.out.below hb7)
        have hz7 := hb7.size
        clear hb7 hX6 hO6 hBx6 hrp6 s0 s1 hc6
        cases hok : fiOk ⟨id, ck, P, D⟩ m (st, sg) with
        | false =>
          obtain rfl : r = -1 := by
            rw [← hr.out]; unfold fxR; rw [hok]; rfl
          obtain ⟨rfl, rfl, rfl, rfl, rfl, rfl⟩ : id = id' ∧ ck = ck' ∧ P = P' ∧ D = D' ∧ [] = T' ∧ false = b' := by
            have h7 := (fiA_no hok).symm.trans hpr.out
            simp only [Prod.mk.injEq, Gp.mk.injEq] at h7
            exact ⟨h7.1.1, h7.1.2.1, h7.1.2.2.1, h7.1.2.2.2, h7.2.1, h7.2.2⟩
          obtain ⟨q0, q1, q2, q3⟩ := hX7.out.1.four
          obtain ⟨r0, r1, r2, r3⟩ := hX7.out.2.2.1.four
          obtain ⟨u0, u1, u2, u3⟩ := hX7.out.2.2.1.free4
          have hend : Hid (FiPost id ck false P D [] w (.returned (.tuple #[gpV id ck (.slice B1 P.length d1) (.slice B2 D.length d2), .slice (some ⟨w7.heap.size, 0, none⟩) 0 0, .bool false])) (((((w7.setCell ⟨w.heap.size + 1 + 1, 0, none⟩ (.int .i64 id)).setCell ⟨w.heap.size + 1 + 1, 1, none⟩ (.int .i64 ck)).setCell ⟨w.heap.size + 1 + 1, 2, none⟩ (.slice B1 P.length d1)).setCell ⟨w.heap.size + 1 + 1, 3, none⟩ (.slice B2 D.length d2)).alloc (.cells #[] 3))) := hid (FiPost.ref hX7.out (hO7.out.more (by omega)))
          have hne7 : w.heap.size + 1 + 1 < w7.heap.size := by omega
          have hy := hid (((hX7.out.2.2.1.set4 (.int .i64 id) (.int .i64 ck) (.slice B1 P.length d1) (.slice B2 D.length d2)).alloc (.cells #[] 3)).four)
          clear hX7 hO7 hBx7 hok hpr
          go_wp2_with (exact bodyPost_ret (v := .tuple #[gpV id ck (.slice B1 P.length d1) (.slice B2 D.length d2), .slice (some ⟨w7.heap.size, 0, none⟩) 0 0, .bool false]) (by simp [results, Try.results13, go_sem, hy.out.1, hy.out.2.1, hy.out.2.2.1, hy.out.2.2.2]) rfl hend.out)
        | true =>
          obtain ⟨x, hfi⟩ := (fiOk_iff hV.out m (st, sg)).1 hok
          obtain ⟨k, hk⟩ : ∃ k, pla P m = k := ⟨_, rfl⟩
          have hpm := pla_mem hV.out.P hfi.1
          rw [hfi.2.1, hk] at hpm
          obtain rfl : r = (k : Int) := by
            rw [← hr.out]; unfold fxR; rw [hok]
            show plI P m = _
            unfold plI; rw [hk, if_pos hpm.2.2]
          obtain ⟨I, hI⟩ : ∃ I, ins P m (st, sg) = I := ⟨_, rfl⟩
          obtain ⟨rfl, hck2, rfl, rfl, rfl, rfl⟩ : id = id' ∧ max ck st = ck' ∧ lft I = P' ∧ D ++ tld I = D' ∧ msgs (tld I) = T' ∧ true = b' := by
            have h7 := (fiA_yes hok).symm.trans hpr.out
            unfold fiG at h7
            simp only [Prod.mk.injEq, Gp.mk.injEq] at h7
            rw [hI] at h7
            exact ⟨h7.1.1, h7.1.2.1, h7.1.2.2.1, h7.1.2.2.2, h7.2.1, h7.2.2⟩
          have hkP : k < P.length := hpm.2.2
          have hIl : Hid (I.length = P.length) := hid (by rw [← hI, ins_len hk hkP])
          have hIa : Hid (AscE I) := hid (by
            rw [← hI]
            refine ins_asc hV.out.ascP m (st, sg) (fun e he => ?_)
            have h1 := ((rst_mem hV.out hfi.1).1 e).1 (by rw [hfi.2.1]; exact he)
            exact hfi.2.2.2.2 e (.inr h1.1) (by rw [← hfi.2.1]; exact h1.2))
          have hperm : Hid ((P.set k (m, (st, sg), true)).Perm I) := hid (by
            rw [← hI]
            exact (set_perm hk hkP _).trans (ins_perm P m (st, sg)).symm)
          have hset := hid (hV.out.ascP.set (k := k) (x := (m, (st, sg), true)) hkP (by
            have : keyE P k = x.2.1 := by rw [keyE, hpm.2.1]
            show ltS (st, sg) (keyE P k) = false
            rw [this]; exact hfi.2.2.2.1))
          have hPl : P.length < 1099511627776 := by have := hl1.out; omega
          clear hI hfi hpm hk hok hpr hr
          -- the heap's slice lies in a block of its own
          obtain ⟨pb, rfl, hpb1, hpb2, -⟩ := hO7.out.op.block_ (by omega)
          have hpbn : pb ≠ W5.heap.size := by have := (hBP.out pb rfl).2; omega
          have hpbD : Hid (∀ b, (Value.slice B2 D.length d2).ownBlock = some b → b ≠ pb) := hid (fun b hb e => hne.out pb rfl (by rw [← e]; exact hb))
          have ho7 := hO7.out.op
          have hen : k * 4 + 3 < (enc P).length := by rw [enc_len]; omega
          have ge := enc_get P k _ (get_atE hkP)
          obtain ⟨xm, xt, xk, xf, hxe⟩ : ∃ m t q f, atE P k = (m, (t, q), f) := ⟨_, _, _, _, rfl⟩
          rw [hxe] at ge
          have c0 : w7.cell? ⟨pb, k * 4, none⟩ = some (.int .i64 xm) := (ho7.cellAt _ (by omega)).trans ge.1
          have c1 : w7.cell? ⟨pb, k * 4 + 1, none⟩ = some (.int .i64 xt) := (ho7.cellAt _ (by omega)).trans ge.2.1
          have c2 : w7.cell? ⟨pb, k * 4 + 2, none⟩ = some (.int .i64 xk) := (ho7.cellAt _ (by omega)).trans ge.2.2.1
          have c3 : w7.cell? ⟨pb, k * 4 + 3, none⟩ = some (.bool xf) := (ho7.cellAt _ (by omega)).trans ge.2.2.2
          have f0 : w7.frozen? ⟨pb, k * 4, none⟩ = false := ho7.frozenAt _
          have f1 : w7.frozen? ⟨pb, k * 4 + 1, none⟩ = false := ho7.frozenAt _
          have f2 : w7.frozen? ⟨pb, k * 4 + 2, none⟩ = false := ho7.frozenAt _
          have f3 : w7.frozen? ⟨pb, k * 4 + 3, none⟩ = false := ho7.frozenAt _
          have hc7 := hBx7.out.cell
          obtain ⟨s0, s1, -, -⟩ := hX7.out.2.1.two
          have k0 : (0 : Int) ≤ (k : Int) := by omega
          have k1 : (k : Int) < (P.length : Int) := by omega
          have hput := hid (ho7.put rfl k (m, (st, sg), true))
          have hk8 := hid ((((((Kp.refl (fun b => b = pb) w7).setCell (p := ⟨pb, k * 4, none⟩) (.inr rfl) (.int .i64 m)).setCell (p := ⟨pb, k * 4 + 1, none⟩) (.inr rfl) (.int .i64 st)).setCell (p := ⟨pb, k * 4 + 2, none⟩) (.inr rfl) (.int .i64 sg)).setCell (p := ⟨pb, k * 4 + 3, none⟩) (.inr rfl) (.bool true)))
          clear hen ge hxe ho7
          go_upto_region 9 with (fail)
          obtain ⟨W8, hW8⟩ : ∃ W, ((((w7.setCell ⟨pb, k * 4, none⟩ (.int .i64 m)).setCell ⟨pb, k * 4 + 1, none⟩ (.int .i64 st)).setCell ⟨pb, k * 4 + 2, none⟩ (.int .i64 sg)).setCell ⟨pb, k * 4 + 3, none⟩ (.bool true)) = W := ⟨_, rfl⟩
          rw [hW8]
          rw [hW8] at hput hk8
          have hz8 : W8.heap.size = w7.heap.size := by rw [← hW8]; simp [World.setCell]
          have hX8 := hid (hX7.out.kp hk8.out (fun b hb => by omega))
          have hBx8 := hid (hBx7.out.kp hk8.out (fun e => hpbn e.symm))
          have hD8 := hid (hk8.out.own hO7.out.od (fun b hb h => hpbD.out b hb h))
          have hH8 : Hid (HMs W8 (w.heap.size + 1 + 1 + 1) W5.heap.size pb P.length d1 (P.set k (m, (st, sg), true))) := hid (HMs.mk_ hBx8.out (OwE.more (by have := hput.out; exact this) (by omega)) (by rw [List.length_set]) hpbn)
          have hH8l : Hid ((P.set k (m, (st, sg), true)).length = P.length) := hid List.length_set
          clear hW8 c0 c1 c2 c3 f0 f1 f2 f3 hc7 s0 s1 hput hX7 hO7 hBx7
          have hhx : Hid (1 ≤ k → ltS (keyE (P.set k (m, (st, sg), true)) k) (keyE (P.set k (m, (st, sg), true)) ((k - 1) / 2)) = false) := hid (fun h => by
            rw [key_set_same hkP, key_set_other (by omega)]
            exact hset.out.2 h)
          go_wp2_with fail
          refine (Fix_any _ hH8.out hPl hkP hset.out.1 hhx.out rfl).mono ?_
          rintro e w9 ⟨rfl, h1, h2⟩
          have hX9 := hid (hX8.out.kp h2 (fun b hb => by omega))
          have hD9 := hid (h2.own hD8.out (fun b hb h => hpbD.out b hb h))
          have hH9 : Hid (HpIs w9 (w.heap.size + 1 + 1 + 1) W5.heap.size pb P.length d1 I) := hid (h1.perm hperm.out)
          have hz9 := h2.size
          clear h1 h2 hX8 hD8 hH8 hBx8 hk8
          go_upto_region 10 with (fail)
          go_cut [10] (fun v wx => v = .int .i64 (k : Int) ∧ wx = w9.setCell ⟨w.heap.size, 1, none⟩ (.int .i64 ck'))
          case first =>
            have q1 := hX9.out.1.four.2.1
            have s0 := hX9.out.2.1.two.1
            have f1 := hX9.out.1.frozen 1
            replace hck2 := hid hck2
            rcases Int.lt_trichotomy ck st with hc | hc | hc
            · have e1 : Hid (ck' = st) := hid (by have := hck2.out; omega)
              go_wp2_with fail
              all_goals first | (go_meet; exact ⟨rfl, by rw [e1.out]⟩) | (exfalso; omega)
            · subst hc
              have e1 : Hid (ck' = ck) := hid (by have := hck2.out; omega)
              go_wp2_with fail
              all_goals first | (go_meet; exact ⟨rfl, by rw [e1.out]⟩) | (exfalso; omega)
            · have e1 : Hid (ck' = ck) := hid (by have := hck2.out; omega)
              go_wp2_with fail
              all_goals first | (go_meet; exact ⟨rfl, by rw [e1.out]⟩) | (exfalso; omega)
          case rest =>
            clear hck2
            obtain ⟨rfl, hW⟩ := hcut
            have hX10 : Hid (Fi3 w wc #[.int .i64 id, .int .i64 ck', .slice (some ⟨pb, 0, none⟩) P.length d1, .slice B2 D.length d2] #[.int .i64 st, .int .i64 sg]) := hid (by
              rw [hW]
              exact ⟨hX9.out.1.set 1 _, hX9.out.2.1.far (by simp) _, hX9.out.2.2.1.far (by simp; omega) _, hX9.out.2.2.2.setCell (Nat.le_refl _) _⟩)
            have hkw : Kp (Fh w) w9 wc := by rw [hW]; exact (Kp.refl _ w9).setCell (.inr (.inl rfl)) _
            have hD10 := hid (hkw.own hD9.out (fun b hb h => by have := (hBD.out b hb).1; rcases h with h | h <;> omega))
            have hH10 := hid (hH9.out.kp hkw (fun h => by rcases h with h | h <;> omega) (fun h => by rcases h with h | h <;> omega))
            have hs10 : wc.heap.size = w9.heap.size := by rw [hW]; simp [World.setCell]
            obtain ⟨W10, rfl⟩ : ∃ W, W = wc := ⟨_, rfl⟩
            clear hW hkw hX9 hD9 hH9
            have hF0 : Hid (FM w (W10.alloc (.cells #[] 3)) W5.heap.size pb st sg id ck' (.slice (some ⟨pb, 0, none⟩) P.length d1) I D d1 0 0 0 B2 d2 (some ⟨W10.heap.size, 0, none⟩) 0) := hid (by
              have hb := below1 W10 (.cells #[] 3)
              have hX := hX10.out.step hb
              refine ⟨hX.1, hX.2.1, hX.2.2.1, hX.2.2.2, ?_, ?_, ?_, by omega, by omega, fun b h => ?_, fun b h => ⟨?_, ?_, fun h2 => ?_⟩⟩
              · rw [Nat.sub_zero, hIl.out]; exact hH10.out.below hb
              · rw [List.take_zero, List.append_nil, Nat.add_zero]; exact (hD10.out.below hb).more (by omega)
              · exact OwI.empty_lit W10 (by omega)
              · injection h with h; simp at h
                exact ⟨by omega, by omega⟩
              · have := (hBD.out b h).2; omega
              · exact hpbD.out b h
              · injection h2 with h2; simp at h2
                have := (hBD.out b h).2; omega)
            clear hX10 hD10 hH10
            replace hs10 := hid hs10
            go_wp2_with fail
            go_loopw [11] (fun v wr => ∃ (j : Nat) (dA : Option Addr) (dc : Nat) (tA : Option Addr) (tc : Nat), v = .slice tA j tc ∧ j ≤ I.length ∧ Hid (∀ e ∈ I.take j, e.2.2 = true) ∧ Hid (FM w wr W5.heap.size pb st sg id ck' (.slice (some ⟨pb, 0, none⟩) P.length d1) I D d1 j j j dA dc tA tc)) (fun v _ => I.length - slLen v)
            case atStart => exact ⟨0, _, _, _, _, rfl, Nat.zero_le _, hid (fun e he => by rw [List.take_zero] at he; cases he), hF0⟩
            case round =>
              obtain ⟨j, dA, dc, tA, tc, rfl, hj, hfin, hF⟩ := hrel
              obtain ⟨zs, hz1, hz2, hz3, hz4⟩ := hF.out.hp.blk (List.Pairwise.sublist (List.drop_sublist _ _) hIa.out)
              have hcw := hz1.1.cell
              have hrz := hid hz1.rd
              replace hz4 := hid hz4
              clear hz1 hz2 hz3
              cases hbl : blkB (I.drop j) with
              | true =>
                have htld := hid (tld_at hfin.out hbl)
                have hbz := hid (hz4.out.trans hbl)
                replace hbl := hid hbl
                have hdl : Hid ((D ++ I.take j).length = D.length + j) := hid (by rw [List.length_append, List.length_take]; omega)
                have htl : Hid ((msgs (I.take j)).length = j) := hid (by rw [msgs_len, List.length_take]; omega)
                have hpl : Hid ((I.drop j).length = I.length - j) := hid List.length_drop
                obtain ⟨ys, hy1, hy2, hy3⟩ := hF.out.hp
                have hy1' := hid hy1
                have hy2' := hid hy2
                have hy3' := hid hy3
                clear hy1 hy2 hy3 hF0
                have hasc := hid (List.Pairwise.sublist (List.drop_sublist j I) hIa.out)
                go_wp2_with fail
                refine (blocked_as hbz.out _ hrz.out).mono ?_
                rintro e w1 ⟨rfl, rfl⟩
                go_wp2_with fail
                refine (ascending_any _ hy1'.out.2.1 hy1'.out.2.2.1 hy2'.out hy3'.out hasc.out (by have := hIl.out; omega)).mono ?_
                rintro e w2 ⟨A9, c9, rfl, h1, h2⟩
                rw [hpl.out]
                have hpb9 := hF.out.gl
                have hP9 := hid h1
                have hk9 := hid h2
                have hg9 := hid (hF.out.g0.kp h2 (fun e => by injection e with e; simp only at e; omega))
                have hr9 := hid (hF.out.r0.kp h2 (fun e => by injection e with e; simp only at e; omega))
                have hd9 := hid (h2.own hF.out.dn (fun b hb e => by injection e with e; exact (hF.out.n3 b hb).2.1 e.symm))
                have ht9 := hid (h2.ownI hF.out.td (fun b hb e => by injection e with e; exact (hF.out.n2 b hb).2 e.symm))
                have hb9 := hid (hF.out.bl.trans (h2.base hF.out.bl.size (fun i e => by injection e with e; simp only at e; omega)))
                have hzz := h2.size
                have hzr := hF.out.r0.lt
                have hdlt := hid hF.out.dn.lt
                clear h1 h2 hy1' hy2' hy3' hrz hcw
                obtain ⟨q0, q1, q2, q3⟩ := hg9.out.four
                obtain ⟨p0, p1, p2, p3⟩ := hg9.out.free4
                obtain ⟨r0, r1, r2, r3⟩ := hr9.out.four
                obtain ⟨u0, u1, u2, u3⟩ := hr9.out.free4
                have hfk := hid ((((Kp.refl (Fh w) w2).setCell (p := ⟨w.heap.size, 2, none⟩) (.inr (.inl rfl)) (.slice A9 (I.length - j) c9)).set4 (b := w.heap.size + 1 + 1) (.inr rfl) (.int .i64 id) (.int .i64 ck') (.slice A9 (I.length - j) c9) (.slice dA (D.length + j) dc)))
                have hend : Hid (FiPost id ck' true (lft I) (D ++ tld I) (msgs (tld I)) w (.returned (.tuple #[gpV id ck' (.slice A9 (I.length - j) c9) (.slice dA (D.length + j) dc), .slice tA j tc, .bool true])) (((((w2.setCell ⟨w.heap.size, 2, none⟩ (.slice A9 (I.length - j) c9)).setCell ⟨w.heap.size + 1 + 1, 0, none⟩ (.int .i64 id)).setCell ⟨w.heap.size + 1 + 1, 1, none⟩ (.int .i64 ck')).setCell ⟨w.heap.size + 1 + 1, 2, none⟩ (.slice A9 (I.length - j) c9)).setCell ⟨w.heap.size + 1 + 1, 3, none⟩ (.slice dA (D.length + j) dc))) := hid (by
                  rw [htld.out.1, htld.out.2]
                  refine ⟨A9, c9, dA, dc, tA, tc, by rw [hpl.out, htl.out, hdl.out], ⟨(hfk.out.own hP9.out (fun b hb h => by have := (hP9.out.lt b hb).1; rcases h with h | h <;> omega)).more (by omega), ?_, rfl, rfl, fun b h8 h9 => ?_⟩, ?_, hb9.out.trans (hfk.out.base hb9.out.size (fun i h => by rcases h with h | h <;> omega))⟩
                  · rw [hdl.out]
                    exact (hfk.out.own hd9.out (fun b hb h => by have := (hd9.out.lt b hb).1; rcases h with h | h <;> omega)).more (by omega)
                  · rw [hdl.out] at h9
                    have := (hP9.out.lt b h8).1
                    have := (hdlt.out b h9).2
                    omega
                  · rw [htl.out]
                    exact (hfk.out.ownI ht9.out (fun b hb h => by have := (ht9.out.lt b hb).1; rcases h with h | h <;> omega)).more (by omega))
                clear hP9 hk9 hg9 hr9 hd9 ht9 hb9 hfk hF hdlt
                go_wp2_with (exact bodyPost_ret (v := .tuple #[gpV id ck' (.slice A9 (I.length - j) c9) (.slice dA (D.length + j) dc), .slice tA j tc, .bool true]) (by simp [results, Try.results13, go_sem, r0, r1, r2, r3]) rfl hend.out)
              | false =>
                have hlt : j < I.length := by
                  rcases Nat.lt_or_ge j I.length with h | h
                  · exact h
                  · rw [List.drop_of_length_le h] at hbl; cases hbl
                obtain ⟨mx, tx, kx, fx, hx⟩ : ∃ m t k f, I[j] = (m, (t, k), f) := ⟨_, _, _, _, rfl⟩
                have hxx : I[j]? = some (mx, (tx, kx), fx) := by rw [List.getElem?_eq_getElem hlt, hx]
                have hdrop := drop_consE hxx
                obtain rfl : true = fx := by
                  rw [hdrop] at hbl
                  cases fx with
                  | true => rfl
                  | false => cases hbl
                have hbz := hid (hz4.out.trans hbl)
                have hfin2 := hid (take_more hxx rfl hfin.out)
                have htk : Hid (msgs (I.take j) ++ [mx] = msgs (I.take (j + 1)) ∧ (msgs (I.take j)).length = j ∧ (msgs (I.take (j + 1))).length = j + 1) := hid (by
                  refine ⟨by rw [take_snocE hxx]; simp [msgs], ?_, ?_⟩
                  · rw [msgs_len, List.length_take]; omega
                  · rw [msgs_len, List.length_take]; omega)
                have hdl : Hid ((D ++ I.take j).length = D.length + j) := hid (by rw [List.length_append, List.length_take]; omega)
                have hdn : Hid ((D ++ I.take j).length + 1 < 1099511627776) := hid (by rw [hdl.out, hl2.out]; have := hIl.out; have := hl1.out; omega)
                have htk2 : Hid (D ++ I.take j ++ [(mx, (tx, kx), true)] = D ++ I.take (j + 1)) := hid (by rw [List.append_assoc, take_snocE hxx])
                have htk3 : Hid ((D ++ I.take (j + 1)).length = D.length + (j + 1)) := hid (by rw [List.length_append, List.length_take]; omega)
                have hsub : I.length - j = (I.length - (j + 1)) + 1 := by omega
                have hHH : Hid (HpIs wr (w.heap.size + 1 + 1 + 1) W5.heap.size pb ((I.length - (j + 1)) + 1) d1 ((mx, (tx, kx), true) :: I.drop (j + 1))) := hid (by rw [← hdrop, ← hsub]; exact hF.out.hp)
                have hasc : Hid (AscE ((mx, (tx, kx), true) :: I.drop (j + 1))) := hid (by rw [← hdrop]; exact List.Pairwise.sublist (List.drop_sublist j I) hIa.out)
                have hIh : I.length - (j + 1) + 1 < 1099511627776 := by have := hIl.out; omega
                replace hbl := hid hbl
                clear hx hxx hdrop hsub
                go_wp2_with fail
                refine (blocked_as hbz.out _ hrz.out).mono ?_
                rintro e w1 ⟨rfl, rfl⟩
                go_wp2_with fail
                refine (take_any _ hHH.out hasc.out hIh).mono ?_
                rintro e w2 ⟨rfl, h1, h2⟩
                have hF2 := hid (hF.out.take_ h2 h1)
                have hF3 := hid (hF2.out.below (below1 w2 (.cells #[.int .i64 mx, .int .i64 tx, .int .i64 kx, .bool true] 34)))
                have hE3 := hid (Cs.new w2 34 #[.int .i64 mx, .int .i64 tx, .int .i64 kx, .bool true])
                clear h1 h2 hHH hrz hcw hz4
                obtain ⟨-, -, -, q3⟩ := hF3.out.g0.four
                have q3f := hF3.out.g0.frozen 3
                obtain ⟨x0, x1, x2, x3⟩ := hE3.out.four
                obtain ⟨W3, hW3⟩ : ∃ W, w2.alloc (.cells #[.int .i64 mx, .int .i64 tx, .int .i64 kx, .bool true] 34) = W := ⟨_, rfl⟩
                have hs3 : Hid (W3.heap.size = w2.heap.size + 1) := hid (by rw [← hW3]; simp)
                rw [hW3] at hF3 hE3 q3 q3f x0 x1 x2 x3
                have hW3' := hid hW3
                have hdw := hid (fun b (e : (Value.slice dA (D.length + j) dc).ownBlock = some b) => (hF2.out.dn.lt b e).2)
                clear hF2 hW3
                go_upto_region 14 with (fail)
                rw [hW3'.out]
                have hdz : Hid (w.heap.size + 1 + 1 + 1 ≤ (W3.alloc (.cells #[.int .i64 mx, .int .i64 tx, .int .i64 kx, .bool true] 34)).heap.size) := hid (by have := hF3.out.r0.lt; simp; omega)
                have hdo : Hid (OwE (W3.alloc (.cells #[.int .i64 mx, .int .i64 tx, .int .i64 kx, .bool true] 34)) (w.heap.size + 1 + 1 + 1) (.slice dA (D.length + j) dc) (D ++ I.take j)) := hid (hF3.out.dn.below (below1 _ _))
                have hlit := hid (RdE.lit1 W3 mx tx kx true)
                have hdk := hid ((Kp.refl (fun b => (Value.slice dA (D.length + j) dc).ownBlock = some b) W3).alloc (.cells #[.int .i64 mx, .int .i64 tx, .int .i64 kx, .bool true] 34))
                go_upto_region 15 with (at_builtin; (refine wpList_appE2 rfl und_en (.tmp 61) (.tmp 63) rfl (B := w.heap.size + 1 + 1 + 1) (Br := W3.heap.size + 1) (v := .slice dA (D.length + j) dc) (zs := D ++ I.take j) (ys := [(mx, (tx, kx), true)]) rfl rfl hdo.out hlit.out hdz.out hdn.out ?_); intro v4 w4 ho4 hg4 hv4; rw [htk2.out] at ho4; obtain ⟨dA4, dc4, e4, -⟩ := ho4.form; rw [htk3.out] at e4; subst e4; have ho4' := hid ho4; have hk4 := hid (hdk.out.grown hg4 (fun b hb => .inr hb)); have hv4' := hid hv4; have hg4x := hF3.out.g0.kp hk4.out (fun e => by have := (hF3.out.dn.lt _ e).1; omega); have y3 := hg4x.four.2.2.2; have y3f := hg4x.frozen 3; clear ho4 hg4 hv4 hg4x)
                have hF4 := hid (hF3.out.done (dA' := dA4) (dc' := dc4) hk4.out ho4'.out (by
                  rcases hv4'.out with h | h
                  · exact .inl h
                  · exact .inr ⟨_, by simp, h⟩))
                have hE4 := hid ((hE3.out.kp hk4.out (fun e => by have := hdw.out _ e; omega)).far (p := ⟨w.heap.size, 3, none⟩) (by have := hF3.out.r0.lt; have := hs3.out; simp; omega) (.slice dA4 (D.length + (j + 1)) dc4))
                obtain ⟨x0, x1, x2, x3⟩ := hE4.out.four
                obtain ⟨W4, hW4⟩ : ∃ W, w4.setCell ⟨w.heap.size, 3, none⟩ (.slice dA4 (D.length + (j + 1)) dc4) = W := ⟨_, rfl⟩
                rw [hW4] at hF4 hE4 x0 x1 x2 x3
                rw [hW4]
                clear hW4 q3 q3f y3 y3f hF3 hE3 hF hdo hlit hdk hk4 ho4' hv4' hdz
                have htd := hid (own_of_block hF4.out.td (fun g hg => (below1 W4 (.cells #[.int .i64 mx] 3)).block g (hF4.out.td.lt g hg).2))
                have hkt := hid ((Kp.refl (fun b => (Value.slice tA j tc).ownBlock = some b) W4).alloc (.cells #[.int .i64 mx] 3))
                have htz : Hid (w.heap.size + 1 + 1 + 1 ≤ (W4.alloc (.cells #[.int .i64 mx] 3)).heap.size) := hid (by have := hF4.out.r0.lt; simp; omega)
                have htn : Hid ((msgs (I.take j)).length + 1 < 1099511627776) := hid (by rw [htk.out.2.1]; have := hIl.out; omega)
                have hliti := hid (RdI.lit1 W4 mx)
                go_wp2_with (at_builtin; (refine wpList_appI2 rfl (.tmp 66) (.tmp 69) rfl (B := w.heap.size + 1 + 1 + 1) (Br := W4.heap.size + 1) (v := .slice tA j tc) (zs := msgs (I.take j)) (ys := [mx]) rfl rfl htd.out hliti.out htz.out htn.out (by omega) ?_); intro v5 w5 ho5 hg5 hv5; rw [htk.out.1] at ho5; obtain ⟨tA5, tc5, e5, -⟩ := ho5.form; rw [htk.out.2.2] at e5; subst e5; have ho5' := hid ho5; have hg5' := hid hg5; have hv5' := hid hv5; clear ho5 hg5 hv5)
                have hF5 := hid (hF4.out.told (tA' := tA5) (tc' := tc5) (hkt.out.grown hg5'.out (fun b hb => .inr hb)) (by have := ho5'.out; rwa [OwI, htk.out.2.2] at this) (by
                  rcases hv5'.out with h | h
                  · exact .inl h
                  · exact .inr ⟨_, by simp, h⟩))
                clear hF4 hE4 x0 x1 x2 x3 htd hkt htz hliti
                go_wp2
                go_roundw
                case rel => exact ⟨j + 1, dA4, dc4, tA5, tc5, rfl, by omega, hfin2, hF5⟩
                case measure => simp [slLen]; omega
end Go.Proofs.Ytbnmeedmeikepaa
