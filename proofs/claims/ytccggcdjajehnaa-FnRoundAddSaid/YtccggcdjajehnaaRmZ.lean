/-
  What the draws of rounds leave: some short round, in memory of its own. No condition but a reader with room.
-/
import Derived.Test.YtccggcdjajehnaaRmK
import Derived.Test.YtccggcdjajehnaaStF
import Derived.Deep.DeepCutAuto
namespace Go.Proofs.Ytccggcdjajehnaa
open Go.RowKit
set_option linter.unusedVariables false
set_option linter.unusedSimpArgs false
/-- what the draw of a message leaves -/
def MsgPost (B g P : Nat) (w : World) (e : Ending) (w' : World) : Prop :=
  ∃ m : Int, e = .returned (.int .i64 m) ∧ Rdr w' B g (P + 2) ∧ w.grownBy w' (some g)

set_option maxHeartbeats 2000000 in
theorem l91Message_any {B g P : Nat} (w : World) (h : Rdr w B g P) (hP : P ≤ 900000) :
    Calls Try.prog 32 #[.pointer (some ⟨g, 0, none⟩)] w (MsgPost B g P w) := by
  have hg := h.lt
  have h' := hid h
  clear h
  go_enter Try.func32, Try.ntmps32
  go_wp2_with fail
  refine (pick_any 24 _ h'.out (by omega) (by omega) (by omega)).mono ?_
  rintro e w1 ⟨x1, rfl, hx1, hy1, r1, q1, -⟩
  have hg1 := r1.lt
  have hs1 := q1.size
  have r1' := hid r1
  have q1' := hid q1
  clear r1 q1 h'
  by_cases h0 : x1 = 0
  · subst h0
    have hbb := below1 w1 (.cells #[.int .i64 (-1), .int .i64 11, .int .i64 12] 3)
    have r2 := hid (r1'.out.below hbb (by omega))
    have q2 := hid (grown_below q1'.out (hbb.mono (by omega)))
    have l2 : AtN (w1.alloc (.cells #[.int .i64 (-1), .int .i64 11, .int .i64 12] 3)) w1.heap.size 3 [-1, 11, 12] := heap_alloc_new w1 _
    have l2' := hid l2
    clear l2 hbb
    go_wp2_with fail
    refine (pick_any 3 _ r2.out (by omega) (by omega) (by omega)).mono ?_
    rintro e w3 ⟨x3, rfl, hx3, hy3, r3, q3, -⟩
    have l3 := hid (l2'.out.grown q3 (by omega))
    obtain ⟨j, rfl⟩ := Int.eq_ofNat_of_zero_le hx3
    obtain ⟨z, hz⟩ := l3.out.cell (k := j) (by simp; omega)
    have r4 := hid r3
    have q4 := hid (grown_set q2.out q3)
    clear r3 q3 l3 l2' r2 q2
    go_wp2
    go_ret
    exact ⟨_, rfl, r4.out, q4.out⟩
  · have hne : (x1 == 0) = false := by simp [h0]
    go_wp2_with fail
    refine (pick_any 8 _ r1'.out (by omega) (by omega) (by omega)).mono ?_
    rintro e w3 ⟨x3, rfl, hx3, hy3, r3, q3, -⟩
    have r4 := hid r3
    have q4 := hid (grown_set q1'.out q3)
    clear r3 q3 r1' q1'
    go_wp2
    go_ret
    exact ⟨_, rfl, r4.out, q4.out⟩

theorem grown_drewN {w w' : World} {r : Option Nat} (h : w.grownBy w' r) (n : Nat) : w.grownBy (w'.drewN n) r := ⟨h.os, h.tape, h.output, h.size, h.block⟩

def GoodPost (B g P : Nat) (w : World) (e : Ending) (w' : World) : Prop :=
  ∃ (A : Option Addr) (c : Nat) (zs : List Int), e = .returned (.slice A zs.length c) ∧ OwI w' w.heap.size (.slice A zs.length c) zs ∧ zs.length ≤ 6 ∧ Rdr w' B g (P + 9) ∧ w.grownBy w' (some g)

theorem l91Set_ex {B g P : Nat} (w : World) (h : Rdr w B g P) (hP : P ≤ 900000) :
    Calls Try.prog 33 #[.pointer (some ⟨g, 0, none⟩)] w (GoodPost B g P w) :=
  (l91Set_any w h hP).mono fun e w' ⟨v, zs, he, ho, hl, hr, hg⟩ => by
    obtain ⟨A, c, rfl, -⟩ := ho.form
    exact ⟨A, c, zs, he, ho, hl, hr.le (by omega), hg⟩

set_option maxHeartbeats 2000000 in
theorem l91Good_any {B g P : Nat} (w : World) (h : Rdr w B g P) (hP : P ≤ 890000) :
    Calls Try.prog 59 #[.pointer (some ⟨g, 0, none⟩)] w (GoodPost B g P w) := by
  have hg := h.lt
  have h' := hid h
  clear h
  go_enter Try.func59, Try.ntmps59
  go_wp2_with fail
  refine (l91Set_any _ h'.out (by omega)).mono ?_
  rintro e w1 ⟨v, zs, rfl, ho, hl, hr, hgr⟩
  obtain ⟨A, c, rfl, hrd⟩ := ho.form
  have ho := hid ho
  have hr := hid hr
  have hgr := hid hgr
  have hrd := hid hrd
  have hz1 := hgr.out.size
  have hg1 := hr.out.lt
  cases hv : gvalid zs with
  | true =>
    go_wp2_with fail
    refine (GroupsValid_spec _ hrd.out (by omega)).mono ?_
    rw [hv]
    rintro e w2 ⟨rfl, hq⟩
    have hb := hq.below w1.heap.size
    have o2 := hid (ho.out.stp hb)
    have r2 := hid ((hr.out.below hb hg1).le (show P + 8 ≤ P + 9 by omega))
    have g2 := hid (grown_below hgr.out (hb.mono hz1))
    clear hq hb hv
    go_wp2
    go_ret
    exact ⟨A, c, zs, rfl, o2.out, hl, r2.out, g2.out⟩
  | false =>
    go_wp2_with fail
    refine (GroupsValid_spec _ hrd.out (by omega)).mono ?_
    rw [hv]
    rintro e w2 ⟨rfl, hq⟩
    have hb := hq.below w1.heap.size
    have r2 := hid (hr.out.below hb hg1)
    have g2 := hid (grown_below hgr.out (hb.mono hz1))
    have hz2 : w.heap.size ≤ w2.heap.size := g2.out.size
    clear hq hb hv
    go_wp2_with fail
    refine (pick_any 5 _ r2.out (by omega) (by omega) (by omega)).mono ?_
    rintro e w3 ⟨x, rfl, hx0, hx1, r3, q3, -⟩
    have g3 := hid (grown_set g2.out q3)
    have hz3 := g3.out.size
    have hb := below1 w3 (.cells #[.int .i64 x] 3)
    have o4 := hid (OwI.one_lit w3 hz3 x)
    have r4 := hid (r3.below hb r3.lt)
    have g4 := hid (grown_below g3.out (hb.mono hz3))
    clear q3 r3 hb
    go_wp2
    go_ret
    exact ⟨some ⟨w3.heap.size, 0, none⟩, 1, [x], rfl, o4.out, by simp, r4.out.le (by omega), g4.out⟩

/-! ### the round that is being drawn: its box, its lists, the result's box -/
structure Rs (w wr : World) (g xb : Nat) (m : Int) (A1 : Option Addr) (c1 : Nat) (A2 : Option Addr) (c2 : Nat) (gs : List Int) (xs : List St) : Prop where
  cs : Cs wr xb 28 #[.int .i64 m, .slice A1 gs.length c1, .slice A2 xs.length c2]
  ow : OwR wr (w.heap.size + 1) A1 gs.length c1 A2 xs.length c2 gs xs
  rs : Cs wr w.heap.size 28 #[.int .i64 0, .slice none 0 0, .slice none 0 0]
  lo : w.heap.size < xb
  gr : w.grownBy wr (some g)
section
variable {w wr w' : World} {g xb : Nat} {m : Int} {A1 : Option Addr} {c1 : Nat} {A2 : Option Addr} {c2 : Nat} {gs : List Int} {xs : List St}

theorem Rs.below (h : Rs w wr g xb m A1 c1 A2 c2 gs xs) (hb : Below wr.heap.size wr w') : Rs w w' g xb m A1 c1 A2 c2 gs xs :=
  ⟨h.cs.step hb, h.ow.below hb, h.rs.step hb, h.lo, grown_below h.gr (hb.mono h.gr.size)⟩

theorem Rs.pick (h : Rs w wr g xb m A1 c1 A2 c2 gs xs) (hg : wr.grownBy w' (some g)) (hl : g < w.heap.size) : Rs w w' g xb m A1 c1 A2 c2 gs xs := by
  have hk : Kp (fun b => b = g) wr w' := (Kp.refl _ wr).grown hg (fun k e => .inr (by injection e with e; exact e.symm))
  have := h.lo
  exact ⟨h.cs.kp hk (by omega), ⟨h.ow.og.kp hk (fun b hb e => by have := (h.ow.og.lt b hb).1; omega), h.ow.os.kp hk (fun b hb e => by have := (h.ow.os.lt b hb).1; omega), rfl, rfl⟩, h.rs.kp hk (by omega), h.lo, grown_set h.gr hg⟩

theorem OwI.off {v : Value} {zs : List Int} {lo b : Nat} {cs : Array Value} (h : OwI wr lo v zs) (k : Cs wr b 28 cs) : v.ownBlock ≠ some b := cs_type k h (by decide)

theorem OwS.off {v : Value} {zs : List St} {lo b : Nat} {cs : Array Value} (h : OwS wr lo v zs) (k : Cs wr b 28 cs) : v.ownBlock ≠ some b := cs_type k h (by decide)

theorem Rs.put {m' : Int} {A1' : Option Addr} {c1' : Nat} {A2' : Option Addr} {c2' : Nat} {gs' : List Int} {xs' : List St} (h : Rs w wr g xb m A1 c1 A2 c2 gs xs) (ho : OwR wr (w.heap.size + 1) A1' gs'.length c1' A2' xs'.length c2' gs' xs') :
    Rs w (((wr.setCell ⟨xb, 0, none⟩ (.int .i64 m')).setCell ⟨xb, 1, none⟩ (.slice A1' gs'.length c1')).setCell ⟨xb, 2, none⟩ (.slice A2' xs'.length c2')) g xb m' A1' c1' A2' c2' gs' xs' := by
  have hk := (Kp.refl (fun b => b = xb) wr).set3 (b := xb) rfl (.int .i64 m') (.slice A1' gs'.length c1') (.slice A2' xs'.length c2')
  have hl := h.lo
  exact ⟨h.cs.set3 _ _ _, ⟨ho.og.kp hk (fun b hb e => by subst e; exact ho.og.off h.cs hb), ho.os.kp hk (fun b hb e => by subst e; exact ho.os.off h.cs hb), rfl, rfl⟩, h.rs.kp hk (by omega), hl,
    grown_far (grown_far (grown_far h.gr (Nat.le_of_lt hl) _) (Nat.le_of_lt hl) _) (Nat.le_of_lt hl) _⟩

theorem Rs.setM (h : Rs w wr g xb m A1 c1 A2 c2 gs xs) (z : Int) : Rs w (wr.setCell ⟨xb, 0, none⟩ (.int .i64 z)) g xb z A1 c1 A2 c2 gs xs := by
  have hl := h.lo
  exact ⟨h.cs.set 0 _, ⟨h.ow.og.setFar (h.ow.og.off h.cs) _, h.ow.os.setFar (h.ow.os.off h.cs) _, rfl, rfl⟩, h.rs.far (by simp; omega) _, hl, grown_far h.gr (Nat.le_of_lt hl) _⟩

theorem Rs.setG {A : Option Addr} {c : Nat} {zs : List Int} (h : Rs w wr g xb m A1 c1 A2 c2 gs xs) (ho : OwI wr (w.heap.size + 1) (.slice A zs.length c) zs) : Rs w (wr.setCell ⟨xb, 1, none⟩ (.slice A zs.length c)) g xb m A c A2 c2 zs xs := by
  have hl := h.lo
  exact ⟨h.cs.set 1 _, ⟨ho.setFar (ho.off h.cs) _, h.ow.os.setFar (h.ow.os.off h.cs) _, rfl, rfl⟩, h.rs.far (by simp; omega) _, hl, grown_far h.gr (Nat.le_of_lt hl) _⟩

theorem Rs.setS {A : Option Addr} {c : Nat} {ys : List St} (h : Rs w wr g xb m A1 c1 A2 c2 gs xs) (hk : Kp (fun b => (Value.slice A2 xs.length c2).ownBlock = some b) wr w') (ho : OwS w' (w.heap.size + 1) (.slice A ys.length c) ys) (hg : w.grownBy w' (some g)) : Rs w (w'.setCell ⟨xb, 2, none⟩ (.slice A ys.length c)) g xb m A1 c1 A c gs ys := by
  have hl := h.lo
  have h1 := h.cs.kp hk (h.ow.os.off h.cs)
  have h2 := h.rs.kp hk (h.ow.os.off h.rs)
  have h3 := h.ow.og.kp hk (own_type h.ow.og h.ow.os (by decide))
  exact ⟨h1.set 2 _, ⟨h3.setFar (h3.off h1) _, ho.setFar (ho.off h1) _, rfl, rfl⟩, h2.far (by simp; omega) _, hl, grown_far hg (Nat.le_of_lt hl) _⟩
end
/-- behind an added stamp: the drawn round as it was, another in a box of its own -/
def CutR (w : World) (B g xb Q k : Nat) (m : Int) (A1 : Option Addr) (c1 : Nat) (A2 : Option Addr) (c2 : Nat) (gs : List Int) (xs : List St) (v o : Value) (wx : World) : Prop :=
  ∃ (bx : Nat) (b' : Bool) (B1 : Option Addr) (d1 : Nat) (B2 : Option Addr) (d2 : Nat) (xs' : List St), v = .pointer (some ⟨bx, 0, none⟩) ∧ o = .bool b' ∧ xb < bx ∧ Hid (Rs w wx g xb m A1 c1 A2 c2 gs xs) ∧ Hid (OwR wx (xb + 1) B1 gs.length d1 B2 xs'.length d2 gs xs') ∧ Hid (Cs wx bx 28 #[.int .i64 m, .slice B1 gs.length d1, .slice B2 xs'.length d2]) ∧ Hid (Asc2 xs' ∧ xs'.length ≤ k + 1) ∧ Hid (Rdr wx B g Q)
section
variable {w w5 X : World} {B g xb Q k lo bx : Nat} {m : Int} {A1 : Option Addr} {c1 : Nat} {A2 : Option Addr} {c2 : Nat} {gs : List Int} {xs xs' : List St} {b' : Bool} {B1 B2 : Option Addr} {d1 d2 : Nat}

theorem CutR.fresh (hG : Rs w w5 g xb m A1 c1 A2 c2 gs xs) (hgl : g < w.heap.size) (hg : w5.grownBy X (some g)) (hlo : w5.heap.size ≤ lo) (ho : OwR X lo B1 gs.length d1 B2 xs'.length d2 gs xs') (hr : Rdr X B g Q) (hl : Asc2 xs' ∧ xs'.length ≤ k + 1) :
    CutR w B g xb Q k m A1 c1 A2 c2 gs xs (.pointer (some ⟨X.heap.size, 0, none⟩)) (.bool b') (X.alloc (.cells #[.int .i64 m, .slice B1 gs.length d1, .slice B2 xs'.length d2] 28)) := by
  have h1 := hG.cs.lt
  have h2 := hg.size
  exact ⟨_, b', B1, d1, B2, d2, xs', rfl, rfl, by omega, hid ((hG.pick hg hgl).below (below1 X _)), hid ((ho.below (below1 X _)).more (by omega)), hid (Cs.new X _ _), hid hl, hid (hr.allocs _)⟩

theorem CutR.old (hG : Rs w w5 g xb m A1 c1 A2 c2 gs xs) (hgl : g < w.heap.size) (hg : w5.grownBy X (some g)) (z : Cs X bx 28 #[.int .i64 0, .slice none 0 0, .slice none 0 0]) (hb : w5.heap.size ≤ bx) (hbl : bx < lo) (ho : OwR X lo B1 gs.length d1 B2 xs'.length d2 gs xs') (hr : Rdr X B g Q) (hl : Asc2 xs' ∧ xs'.length ≤ k + 1) :
    CutR w B g xb Q k m A1 c1 A2 c2 gs xs (.pointer (some ⟨bx, 0, none⟩)) (.bool b') (((X.setCell ⟨bx, 0, none⟩ (.int .i64 m)).setCell ⟨bx, 1, none⟩ (.slice B1 gs.length d1)).setCell ⟨bx, 2, none⟩ (.slice B2 xs'.length d2)) := by
  have h1 := hG.cs.lt
  have h2 := hG.gr.size
  have hg' := grown_far (grown_far (grown_far hg (p := ⟨bx, 0, none⟩) hb (.int .i64 m)) (p := ⟨bx, 1, none⟩) hb (.slice B1 gs.length d1)) (p := ⟨bx, 2, none⟩) hb (.slice B2 xs'.length d2)
  have hgb : g < bx := by omega
  exact ⟨bx, b', B1, d1, B2, d2, xs', rfl, rfl, by omega, hid (hG.pick hg' hgl), hid ((((ho.setLow (p := ⟨bx, 0, none⟩) hbl _).setLow (p := ⟨bx, 1, none⟩) hbl _).setLow (p := ⟨bx, 2, none⟩) hbl _).more (by omega)), hid (z.set3 _ _ _), hid hl, hid (((hr.far (p := ⟨bx, 0, none⟩) hgb _).far (p := ⟨bx, 1, none⟩) hgb _).far (p := ⟨bx, 2, none⟩) hgb _)⟩
end

theorem adA_is {m : Int} {gs : List Int} {xs : List St} {s : St} (h : Asc2 xs) : ∃ (xs' : List St) (b' : Bool), adA m gs xs s = ⟨m, gs, xs', b'⟩ ∧ Asc2 xs' ∧ xs'.length ≤ xs.length + 1 := by
  unfold adA
  cases ha : adB gs xs s with
  | true => exact ⟨_, _, rfl, insS_asc h (adB_true.1 ha).2, by rw [insS_len]; exact Nat.le_refl _⟩
  | false => exact ⟨_, _, rfl, h, Nat.le_succ _⟩

theorem l12Add_asA {n1 c1 n2 c2 : Nat} {A1 A2 : Option Addr} {gs : List Int} {xs xs' : List St} {m t g : Int} {b' : Bool} (hO : adA m gs xs (t, g) = ⟨m, gs, xs', b'⟩) (ha : Asc2 xs) (w : World) (hr : RdR w A1 n1 A2 n2 c2 gs xs) (hn9 : n2 + 1 < 1099511627776) :
    Calls Try.prog 47 #[rnV m (.slice A1 n1 c1) (.slice A2 n2 c2), two t g] w fun e w' => ∃ (B1 : Option Addr) (d1 : Nat) (B2 : Option Addr) (d2 : Nat), e = .returned (.tuple #[rnV m (.slice B1 gs.length d1) (.slice B2 xs'.length d2), .bool b']) ∧ OwR w' w.heap.size B1 gs.length d1 B2 xs'.length d2 gs xs' ∧ Below w.heap.size w w' :=
  (l12Add_any hO ha w hr hn9).mono fun e w' h => h

def RndPost (B g P : Nat) (w : World) (e : Ending) (w' : World) : Prop :=
  ∃ (m : Int) (A1 : Option Addr) (c1 : Nat) (A2 : Option Addr) (c2 : Nat) (gs : List Int) (xs : List St), e = .returned (rnV m (.slice A1 gs.length c1) (.slice A2 xs.length c2)) ∧ OwR w' w.heap.size A1 gs.length c1 A2 xs.length c2 gs xs ∧ gs.length ≤ 6 ∧ xs.length ≤ 7 ∧ Rdr w' B g (P + 60) ∧ w.grownBy w' (some g)

set_option maxRecDepth 100000 in
set_option maxHeartbeats 16000000 in
theorem l91Round_any {B g P : Nat} (w : World) (h : Rdr w B g P) (hP : P ≤ 800000) :
    Calls Try.prog 42 #[.pointer (some ⟨g, 0, none⟩)] w (RndPost B g P w) := by
  have hgl := h.lt
  have r0 := hid (h.allocs (.cells #[.int .i64 0, .slice none 0 0, .slice none 0 0] 28))
  have g0 := hid (World.grownBy_alloc w (.cells #[.int .i64 0, .slice none 0 0, .slice none 0 0] 28) (some g))
  have a0 := hid (Cs.new w 28 #[.int .i64 0, .slice none 0 0, .slice none 0 0])
  clear h
  go_enter Try.func42, Try.ntmps42
  go_wp2_with fail
  refine (pick_any 8 _ r0.out (by omega) (by omega) (by omega)).mono ?_
  rintro e w1 ⟨x1, rfl, hx1, hy1, r1, q1, s1⟩
  have hk1 := hid ((Kp.refl (fun b => b = g) _).grown q1 (fun k e => .inr (by injection e with e; exact e.symm)))
  have a1 := hid (a0.out.kp hk1.out (by omega))
  have g1 := hid (grown_set g0.out q1)
  have r1' := hid r1
  have hz1 : w.heap.size + 1 ≤ w1.heap.size := by rw [s1]; simp
  have hg1 : g < w1.heap.size := by omega
  clear q1 s1 r0 g0 a0 hk1 r1
  go_wp2_with fail
  refine (l91Good_any _ r1'.out (by omega)).mono ?_
  rintro e w2 ⟨A, c, zs, rfl, ho, hl, r2, q2⟩
  have hk2 := hid ((Kp.refl (fun b => b = g) _).grown q2 (fun k e => .inr (by injection e with e; exact e.symm)))
  have a2 := hid (a1.out.kp hk2.out (by omega))
  have g2 := hid (grown_set g1.out q2)
  have r2' := hid r2
  have hz2 : w.heap.size + 1 ≤ w2.heap.size := Nat.le_trans hz1 q2.size
  have hrd := hid (ho.rd_ rfl)
  clear q2 r1' g1 a1 hk2 r2 ho
  obtain ⟨m0, gs0, xs0, ok0, hnw⟩ : ∃ m gs xs ok, nwRo x1 zs = ⟨m, gs, xs, ok⟩ := ⟨_, _, _, _, rfl⟩
  have hnl : xs0 = [] ∧ gs0.length ≤ 6 := by
    unfold nwRo at hnw
    split at hnw
    · injection hnw with e1 e2 e3 e4
      rw [← e2, ← e3]; exact ⟨rfl, hl⟩
    · injection hnw with e1 e2 e3 e4
      rw [← e2, ← e3]; exact ⟨rfl, Nat.zero_le _⟩
  obtain ⟨rfl, hgl0⟩ := hnl
  replace hnw := hid hnw
  go_wp2_with fail
  refine (RoundNew_spec hnw.out _ hrd.out (by omega)).mono ?_
  rintro e w3 ⟨A1, c1, A2, c2, rfl, oR, hb3⟩
  have a3 := hid (a2.out.step hb3)
  have g3 := hid (grown_below g2.out (hb3.mono (by omega)))
  have r3 := hid (r2'.out.below hb3 (by omega))
  have hz3 : w.heap.size + 1 ≤ w3.heap.size := Nat.le_trans hz2 hb3.size
  have oR := hid (show OwR w3 w2.heap.size A1 gs0.length c1 A2 ([] : List St).length c2 gs0 [] from oR)
  clear hb3 a2 g2 r2' hrd
  go_upto_region 2 with (fail)
  obtain ⟨u0, hu0⟩ : ∃ u0, w3.alloc (.cells #[.int .i64 m0, .slice A1 gs0.length c1, .slice A2 0 c2] 28) = u0 := ⟨_, rfl⟩
  rw [hu0]
  have hbb : Below w3.heap.size w3 u0 := by rw [← hu0]; exact below1 _ _
  obtain ⟨xb, hxb⟩ : ∃ xb, w3.heap.size = xb := ⟨_, rfl⟩
  have hR0 : Hid (Rs w u0 g xb m0 A1 c1 A2 c2 gs0 []) := hid ⟨by rw [← hu0, ← hxb]; exact Cs.new _ _ _, (oR.out.below hbb).more (by omega), a3.out.step hbb, by omega, grown_below g3.out (hbb.mono (by omega))⟩
  have r4 := hid (r3.out.below hbb (by omega))
  rw [hxb]
  clear hu0 hbb hxb a3 g3 r3 oR hnw
  go_upto_block 0 with (fail)
  go_cut [5] (fun v wx => ∃ (k : Nat) (m : Int) (A1 : Option Addr) (c1 : Nat) (A2 : Option Addr) (c2 : Nat) (gs : List Int) (xs : List St), v = .int .i64 (k : Int) ∧ Hid (Rs w wx g xb m A1 c1 A2 c2 gs xs) ∧ Hid (gs.length ≤ 6 ∧ xs.length ≤ 6) ∧ Hid (Rdr wx B g (P + 40)))
  case first =>
    go_wp2_with fail
    go_loopw [5] (fun v wr => ∃ (k : Nat) (m : Int) (A1 : Option Addr) (c1 : Nat) (A2 : Option Addr) (c2 : Nat) (gs : List Int) (xs : List St), v = .int .i64 (k : Int) ∧ k ≤ 6 ∧ k ≤ gs.length ∧ Hid (Rs w wr g xb m A1 c1 A2 c2 gs xs) ∧ Hid (Asc2 xs ∧ xs.length ≤ k) ∧ gs.length ≤ 6 ∧ Hid (Rdr wr B g (P + 1 + 9 + 3 * k))) (fun v _ => 6 - (intOf v).toNat)
    case atStart => exact ⟨0, _, _, _, _, _, gs0, [], rfl, by omega, by omega, hR0, hid ⟨by simp, Nat.le_refl _⟩, hgl0, r4⟩
    case round =>
      clear hR0 r4
      obtain ⟨k, m, A1, c1, A2, c2, gs, xs, rfl, hk, hkg, hG, hA, hgs, hR⟩ := hrel
      obtain ⟨x0, x1', x2⟩ := hG.out.cs.three
      have hxbl := hG.out.cs.lt
      have hlo := hG.out.lo
      by_cases hlt : k < gs.length
      · go_wp2_with fail
        refine (pick_any 4 _ hR.out (by omega) (by omega) (by omega)).mono ?_
        rintro e w5 ⟨x5, rfl, hx5, hy5, r5, q5, -⟩
        have hG5 := hid (hG.out.pick q5 hgl)
        have r5' := hid r5
        clear q5 r5 hG hR x0 x1' x2
        by_cases hp : 0 < x5
        · have hgd : ¬ (x5 ≤ 0) := by omega
          obtain ⟨ad, z, rfl, hz, hc⟩ := RdI.at' (hG5.out.ow.og.rd_ rfl) hlt
          have i0 : (0 : Int) ≤ (k : Int) := by omega
          have i1 : (k : Int) < (gs.length : Int) := by omega
          have hRB := hid hG5.out.ow.og
          have KZ : Hid (∀ X, w5.grownBy X (some g) → X.cell? (ad.add k) = some (.int .i64 z)) := hid (fun X h => by
            have hp5 := ((hG5.out.pick h hgl).ow.og.rd_ rfl)
            obtain ⟨ad', z', e, hz', hc'⟩ := RdI.at' hp5 hlt
            injection e with e
            subst e
            rw [hc', ← hz'.out, hz.out])
          have KA : Hid (∀ X, w5.grownBy X (some g) → (X.cell? ⟨xb, 0, none⟩ = some (.int .i64 m) ∧ X.cell? ⟨xb, 1, none⟩ = some (.slice (some ad) gs.length c1) ∧ X.cell? ⟨xb, 2, none⟩ = some (.slice A2 xs.length c2)) ∧ X.cell? (ad.add k) = some (.int .i64 z)) := hid (fun X h => ⟨(hG5.out.pick h hgl).cs.three, KZ.out X h⟩)
          have GD := hid (show w5.grownBy w5.drew (some g) from (grown_drewN (World.grownBy.refl w5 (some g)) 1))
          have GZ := hid (show w5.grownBy (w5.alloc (.cells #[.int .i64 0, .slice none 0 0, .slice none 0 0] 28)).drew (some g) from (grown_drewN (World.grownBy_alloc w5 (.cells #[.int .i64 0, .slice none 0 0, .slice none 0 0] 28) (some g)) 1))
          have CZ := hid (show Cs (w5.alloc (.cells #[.int .i64 0, .slice none 0 0, .slice none 0 0] 28)).drew w5.heap.size 28 #[.int .i64 0, .slice none 0 0, .slice none 0 0] from Cs.new w5 _ _)
          have rD := hid (show Rdr w5.drew B g (P + 1 + 9 + 3 * k + 1) from r5'.out)
          have rZ := hid (show Rdr (w5.alloc (.cells #[.int .i64 0, .slice none 0 0, .slice none 0 0] 28)).drew B g (P + 1 + 9 + 3 * k + 1) from r5'.out.allocs (.cells #[.int .i64 0, .slice none 0 0, .slice none 0 0] 28))
          have hg5 := hid (show (some g : Option Nat) ≠ some w5.heap.size from fun e => by injection e with e; have := r5'.out.lt; omega)
          have hgw5 := r5'.out.lt
          have hxb5 := hG5.out.cs.lt
          have hPP := hid (show P + 1 + 9 + 3 * k + 1 ≤ 1000000 by omega)
          have hasc := hid hA.out.1
          have hxl := hid hA.out.2
          have hn9 := hid (show xs.length + 1 < 1099511627776 by have := hA.out.2; omega)
          have hn1 := hid (show gs.length < 1099511627776 by omega)
          have hn2 := hid (show xs.length < 1099511627776 by have := hA.out.2; omega)
          have zb5 : w5.heap.size ≤ w5.heap.size := Nat.le_refl _
          clear hc hz
          go_upto_region 6 with (fail)
          go_cut [6, 7] (fun v o wx => CutR w B g xb (P + 1 + 9 + 3 * k + 1 + 1) k m (some ad) c1 A2 c2 gs xs v o wx)
          case first =>
            go_region_held3 (fun X => (X.cell? ⟨xb, 0, none⟩ = some (.int .i64 m) ∧ X.cell? ⟨xb, 1, none⟩ = some (.slice (some ad) gs.length c1) ∧ X.cell? ⟨xb, 2, none⟩ = some (.slice A2 xs.length c2)) ∧ X.cell? (ad.add k) = some (.int .i64 z))
              (first | with_reducible exact KA.out _ GD.out | with_reducible exact KA.out _ GZ.out | with_reducible exact KA.out _ G1.out | with_reducible exact KA.out _ (grown_alloc G1.out _) | with_reducible exact KA.out _ G3.out | with_reducible exact KA.out _ (grown_alloc G3.out _) | with_reducible exact KA.out _ (grown_far (grown_far (grown_far G3.out (p := ⟨_, 0, none⟩) zb _) (p := ⟨_, 1, none⟩) zb _) (p := ⟨_, 2, none⟩) zb _))
              (first | (go_at_call 56; (with_reducible refine (pick_any 9 _ rZ.out hPP.out (by decide) (by decide)).mono ?_); rintro e X1 ⟨x1, rfl, hx1, hy1, r1, q1, -⟩; have G1 := hid (grown_set GZ.out q1); have z1 := hid (grown_cs CZ.out q1 hg5.out); have r1 := hid r1; have zb := zb5; have hw2 : IntKind.i64.wrap (1 + x1) = 1 + x1 := IntWalk.i64_in _ (by omega); clear q1; have H1 := hid (hG5.out.pick G1.out hgl); obtain ⟨xs', b', hfi, hfa, hfl⟩ := adA_is (m := m) (gs := gs) (s := (1 + x1, z)) hasc.out; have hL9 := hid (And.intro hfa (Nat.le_trans hfl (Nat.succ_le_succ hxl.out))); replace hfi := hid hfi; clear hfa hfl) | (go_at_call 56; (with_reducible refine (pick_any 9 _ rD.out hPP.out (by decide) (by decide)).mono ?_); rintro e X1 ⟨x1, rfl, hx1, hy1, r1, q1, -⟩; have G1 := hid (grown_set GD.out q1); have r1 := hid r1; have hw2 : IntKind.i64.wrap (1 + x1) = 1 + x1 := IntWalk.i64_in _ (by omega); clear q1; have H1 := hid (hG5.out.pick G1.out hgl); obtain ⟨xs', b', hfi, hfa, hfl⟩ := adA_is (m := m) (gs := gs) (s := (1 + x1, z)) hasc.out; have hL9 := hid (And.intro hfa (Nat.le_trans hfl (Nat.succ_le_succ hxl.out))); replace hfi := hid hfi; clear hfa hfl) | (go_at_call 47; (with_reducible refine (l12Add_asA hfi.out hasc.out _ (H1.out.ow.rd hn1.out hn2.out) hn9.out).mono ?_); rintro e X3 ⟨B1, d1, B2, d2, rfl, o3, hb3⟩; have z3 := hid (z1.out.step hb3); have zlt := z1.out.lt; have G3 := hid (grown_below G1.out (hb3.mono G1.out.size)); have o3 := hid o3; have r3 := hid (r1.out.below hb3 r1.out.lt); have hsz := G1.out.size; obtain ⟨zc0, zc1, zc2⟩ := z3.out.three; obtain ⟨zf0, zf1, zf2⟩ := z3.out.free3; clear hb3) | (go_at_call 47; (with_reducible refine (l12Add_asA hfi.out hasc.out _ ((H1.out.below (below1 X1 (.cells #[.int .i64 0, .slice none 0 0, .slice none 0 0] 28))).ow.rd hn1.out hn2.out) hn9.out).mono ?_); rintro e X3 ⟨B1, d1, B2, d2, rfl, o3, hb3⟩; have zlt : X1.heap.size < (X1.alloc (.cells #[.int .i64 0, .slice none 0 0, .slice none 0 0] 28)).heap.size := (Cs.new X1 28 #[.int .i64 0, .slice none 0 0, .slice none 0 0]).lt; have z3 := hid ((Cs.new X1 28 #[.int .i64 0, .slice none 0 0, .slice none 0 0]).step hb3); have G3 := hid (grown_below (grown_alloc G1.out (.cells #[.int .i64 0, .slice none 0 0, .slice none 0 0] 28)) (hb3.mono (grown_alloc G1.out (.cells #[.int .i64 0, .slice none 0 0, .slice none 0 0] 28)).size)); have zb : w5.heap.size ≤ X1.heap.size := G1.out.size; have o3 := hid o3; have r3 := hid ((r1.out.allocs (.cells #[.int .i64 0, .slice none 0 0, .slice none 0 0] 28)).below hb3 (r1.out.allocs (.cells #[.int .i64 0, .slice none 0 0, .slice none 0 0] 28)).lt); obtain ⟨zc0, zc1, zc2⟩ := z3.out.three; obtain ⟨zf0, zf1, zf2⟩ := z3.out.free3; clear hb3) | (go_at_call 47; (with_reducible refine (l12Add_asA hfi.out hasc.out _ (H1.out.ow.rd hn1.out hn2.out) hn9.out).mono ?_); rintro e X3 ⟨B1, d1, B2, d2, rfl, o3, hb3⟩; have G3 := hid (grown_below G1.out (hb3.mono G1.out.size)); have o3 := hid o3; have r3 := hid (r1.out.below hb3 r1.out.lt); have hsz := G1.out.size; clear hb3))
            all_goals
              go_wp2
              go_meet
              first
                | exact CutR.old hG5.out hgl G3.out z3.out zb zlt o3.out r3.out hL9.out
                | exact CutR.fresh hG5.out hgl G3.out hsz o3.out r3.out hL9.out
          case rest =>
            clear KA KZ GD GZ CZ rD rZ hRB
            obtain ⟨bx, b', B1, d1, B2, d2, xs', rfl, rfl, hbx, hG9, hO9, hT9, hL9, hr9⟩ := hcut
            obtain ⟨W9, rfl⟩ : ∃ W, W = wc := ⟨_, rfl⟩
            have rA := hid (hr9.out.le (show P + 1 + 9 + 3 * k + 1 + 1 ≤ P + 1 + 9 + 3 * (k + 1) by omega))
            have hd9 : bx ≠ xb := by omega
            have hA9 := hid (show Asc2 xs ∧ xs.length ≤ k + 1 from ⟨hA.out.1, by have := hA.out.2; omega⟩)
            clear r5' hG5 hr9 hA
            obtain ⟨t0, t1, t2⟩ := hT9.out.three
            obtain ⟨q0, q1, q2⟩ := hG9.out.cs.three
            obtain ⟨f0, f1, f2⟩ := hG9.out.cs.free3
            cases b' with
            | true =>
              have hGA := hid (hG9.out.put (m' := m) (hO9.out.more (by omega)))
              have hkA := hid ((((rA.out.far (p := ⟨xb, 0, none⟩) (by simp; omega) (.int .i64 m)).far (p := ⟨xb, 1, none⟩) (by simp; omega) (.slice B1 gs.length d1)).far (p := ⟨xb, 2, none⟩) (by simp; omega) (.slice B2 xs'.length d2)))
              clear hG9
              go_wp2
              go_roundw
              case rel => exact ⟨k + 1, _, _, _, _, _, gs, xs', by go_num, by omega, by omega, hGA, hL9, hgs, hkA⟩
              case measure => simp [intOf]; omega
            | false =>
              go_wp2
              go_roundw
              case rel => exact ⟨k + 1, _, _, _, _, _, gs, xs, by go_num, by omega, by omega, hG9, hA9, hgs, rA⟩
              case measure => simp [intOf]; omega
        · have hgd : x5 ≤ 0 := by omega
          have rA := hid (r5'.out.le (show P + 1 + 9 + 3 * k + 1 ≤ P + 1 + 9 + 3 * (k + 1) by omega))
          have hA9 := hid (show Asc2 xs ∧ xs.length ≤ k + 1 from ⟨hA.out.1, by have := hA.out.2; omega⟩)
          go_wp2
          go_roundw
          case rel => exact ⟨k + 1, _, _, _, _, _, gs, xs, by go_num, by omega, by omega, hG5, hA9, hgs, rA⟩
          case measure => simp [intOf]; omega
      · have hLf := hid (show gs.length ≤ 6 ∧ xs.length ≤ 6 by have := hA.out.2; omega)
        have hRf := hid (hR.out.le (show P + 1 + 9 + 3 * k ≤ P + 40 by omega))
        go_wp2_with fail
        go_meet
        exact ⟨k, _, _, _, _, _, _, _, rfl, hG, hLf, hRf⟩
  case rest =>
    clear hR0 r4
    obtain ⟨k, m, A1, c1, A2, c2, gs, xs, rfl, hG, hL, hR⟩ := hcut
    obtain ⟨W3, rfl⟩ : ∃ W, W = wc := ⟨_, rfl⟩
    go_wp2_with fail
    refine (pick_any 20 _ hR.out (by omega) (by omega) (by omega)).mono ?_
    rintro e w4 ⟨x4, rfl, hx4, hy4, r4, q4, -⟩
    have hG4 := hid (hG.out.pick q4 hgl)
    have r4' := hid r4
    clear q4 r4 hG hR
    go_upto_block 2 with (fail)
    go_cut [5] (fun v wx => ∃ (m : Int) (A1 : Option Addr) (c1 : Nat) (A2 : Option Addr) (c2 : Nat) (gs : List Int) (xs : List St), v = .int .i64 (k : Int) ∧ Hid (Rs w wx g xb m A1 c1 A2 c2 gs xs) ∧ Hid (gs.length ≤ 6 ∧ xs.length ≤ 7) ∧ Hid (Rdr wx B g (P + 60)))
    case first =>
      have hgb4 := hG4.out.cs.lt
      have hlo4 := hG4.out.lo
      have hL7 := hid (show gs.length ≤ 6 ∧ xs.length ≤ 7 by have := hL.out; omega)
      rcases (show x4 = 0 ∨ x4 = 1 ∨ x4 = 2 ∨ 3 ≤ x4 by omega) with rfl | rfl | rfl | hx5
      · -- another message
        go_wp2_with fail
        refine (pick_any 14 _ r4'.out (by omega) (by omega) (by omega)).mono ?_
        rintro e w6 ⟨x6, rfl, hx6, hy6, r6, q6, -⟩
        have hG6 := hid (hG4.out.pick q6 hgl)
        have q0 := hG6.out.cs.three.1
        have f0 := hG6.out.cs.frozen 0
        have hG7 := hid (hG6.out.setM (x6 - 1))
        have r7 := hid ((r6.le (show P + 40 + 1 + 1 ≤ P + 60 by omega)).far (p := ⟨xb, 0, none⟩) (by simp; omega) (.int .i64 (x6 - 1)))
        clear q6 r6 hG6 hG4
        go_wp2_with fail
        go_meet
        exact ⟨_, _, _, _, _, _, _, rfl, hG7, hL7, r7⟩
      · -- other groups
        go_wp2_with fail
        refine (l91Set_ex _ r4'.out (by omega)).mono ?_
        rintro e w6 ⟨A, c, zs, rfl, ho, hzl, r6, q6⟩
        have hG6 := hid (hG4.out.pick q6 hgl)
        have q0 := hG6.out.cs.three.2.1
        have f0 := hG6.out.cs.frozen 1
        have hz4 := hG4.out.gr.size
        have hG7 := hid (hG6.out.setG (ho.more (by omega)))
        have hL8 := hid (show zs.length ≤ 6 ∧ xs.length ≤ 7 by have := hL.out; omega)
        have r7 := hid ((r6.le (show P + 40 + 1 + 9 ≤ P + 60 by omega)).far (p := ⟨xb, 1, none⟩) (by simp; omega) (.slice A zs.length c))
        clear q6 r6 hG6 hG4 ho
        go_wp2_with fail
        go_meet
        exact ⟨_, _, _, _, _, _, _, rfl, hG7, hL8, r7⟩
      · -- a further stamp
        have qa := hG4.out.cs.three.2.2
        have hG4d := hid (hG4.out.below (Below.refl _ _).drew)
        have r4d := hid (show Rdr w4.drew B g (P + 40 + 1) from r4'.out)
        have hPP := hid (show P + 40 + 1 ≤ 900000 by omega)
        have hnA := hid (show xs.length + 1 < 1099511627776 by have := hL.out; omega)
        go_upto_region 15 with (fail)
        have f4 := hG4.out.cs.frozen 2
        go_region_law (first | ((refine step_appS rfl und_st (.tmp 58) (.tmp 61) rfl (B := w.heap.size + 1) (v := .slice A2 xs.length c2) (zs := xs) (ys := [(t6, k6)]) (m := 1) rfl rfl hG7.out.ow.os l7.out hz7.out hnA.out ?_); intro v8 w8 ho8 hg8 hv8; obtain ⟨L, hLe⟩ : ∃ L, xs ++ [(t6, k6)] = L := ⟨_, rfl⟩; have hLl := congrArg List.length hLe; rw [hLe] at ho8; replace hLe := hid hLe; obtain ⟨Ab, cb, rfl, -, -⟩ := ho8.form; have hk8 := hid ((Kp.refl (fun b => (Value.slice A2 xs.length c2).ownBlock = some b) _).grown hg8 (fun b h => .inr h)); have gr8 := hid (show w.grownBy w8 (some g) from ⟨hk8.out.os.trans hG7.out.gr.os, hk8.out.tape.trans hG7.out.gr.tape, hk8.out.output.trans hG7.out.gr.output, Nat.le_trans hG7.out.gr.size hk8.out.size, fun i h1 h2 => (hk8.out.block i (Nat.lt_of_lt_of_le h1 hG7.out.gr.size) (fun h => by have := (hG7.out.ow.os.lt i h).1; omega)).trans (hG7.out.gr.block i h1 h2)⟩); have hGy := hG7.out.cs.kp hk8.out (hG7.out.ow.os.off hG7.out.cs); have qd := hGy.three.2.2; have qf := hGy.frozen 2; have hGz := hid (hG7.out.setS hk8.out ho8 gr8.out); have rz := hid (((r6'.out.keep (w' := w8) (fun b hb => hk8.out.block b (by have := hgl7.out; omega) (fun h => by have := (hG7.out.ow.os.lt b h).1; omega))).le (show P + 40 + 1 + 4 ≤ P + 60 by omega)).far (p := ⟨xb, 2, none⟩) (by simp; omega) (.slice Ab L.length cb)); have hLz := hid (show gs.length ≤ 6 ∧ L.length ≤ 7 by have := hL.out; simp at hLl; omega); clear hLl ho8 hg8 hv8) | (go_simp; go_at_call 43; (with_reducible refine (l91Stamp_any _ r4d.out hPP.out).mono ?_); rintro e w6 ⟨t6, k6, rfl, r6, q6⟩; have hG6 := hid (hG4d.out.pick q6 hgl); have r6' := hid (r6.allocs (.cells #[.int .i64 t6, .int .i64 k6] 33)); have hb7 := below1 w6 (.cells #[.int .i64 t6, .int .i64 k6] 33); have hG7 := hid (hG6.out.below hb7); have qb := hG6.out.cs.three.2.2; have qc := hG7.out.cs.three.2.2; have l7 := hid (RdS.of_cs (Cs.new w6 33 #[.int .i64 t6, .int .i64 k6])); have hz7 := hid (show w.heap.size + 1 ≤ (w6.alloc (.cells #[.int .i64 t6, .int .i64 k6] 33)).heap.size by have := hG6.out.gr.size; simp; omega); have hgl7 := hid (show g < (w6.alloc (.cells #[.int .i64 t6, .int .i64 k6] 33)).heap.size by have := r6.lt; simp; omega); clear q6 r6 hb7))
        all_goals
          go_wp2_with fail
          go_meet
          exact ⟨_, _, _, _, _, _, _, rfl, hGz, hLz, rz⟩
      · have e0 : (x4 == 0) = false := by simp; omega
        have e1 : (x4 == 1) = false := by simp; omega
        have e2 : (x4 == 2) = false := by simp; omega
        have r7 := hid (r4'.out.le (show P + 40 + 1 ≤ P + 60 by omega))
        go_wp2_with fail
        go_meet
        exact ⟨_, _, _, _, _, _, _, rfl, hG4, hL7, r7⟩
    case rest =>
      clear hG4 r4' hL
      obtain ⟨m, A1, c1, A2, c2, gs, xs, -, hG, hL, hR⟩ := hcut
      obtain ⟨W5, rfl⟩ : ∃ W, W = wc := ⟨_, rfl⟩
      obtain ⟨x0, x1, x2⟩ := hG.out.cs.three
      obtain ⟨z0, z1, z2⟩ := hG.out.rs.three
      obtain ⟨f0, f1, f2⟩ := hG.out.rs.free3
      have hlo := hG.out.lo
      have hY := hid (hG.out.rs.set3 (.int .i64 m) (.slice A1 gs.length c1) (.slice A2 xs.length c2)).three
      have hO := hid (((hG.out.ow.setLow (p := ⟨w.heap.size, 0, none⟩) (Nat.lt_succ_self _) (.int .i64 m)).setLow (p := ⟨w.heap.size, 1, none⟩) (Nat.lt_succ_self _) (.slice A1 gs.length c1)).setLow (p := ⟨w.heap.size, 2, none⟩) (Nat.lt_succ_self _) (.slice A2 xs.length c2))
      have hRz := hid (((hR.out.far (p := ⟨w.heap.size, 0, none⟩) hgl (.int .i64 m)).far (p := ⟨w.heap.size, 1, none⟩) hgl (.slice A1 gs.length c1)).far (p := ⟨w.heap.size, 2, none⟩) hgl (.slice A2 xs.length c2))
      have hgz := hid (grown_far (grown_far (grown_far hG.out.gr (p := ⟨w.heap.size, 0, none⟩) (Nat.le_refl _) (.int .i64 m)) (p := ⟨w.heap.size, 1, none⟩) (Nat.le_refl _) (.slice A1 gs.length c1)) (p := ⟨w.heap.size, 2, none⟩) (Nat.le_refl _) (.slice A2 xs.length c2))
      go_wp2
      obtain ⟨y0, y1, y2⟩ := hY.out
      refine bodyPost_ret (v := rnV m (.slice A1 gs.length c1) (.slice A2 xs.length c2)) (by simp [results, Try.results42, go_sem, y0, y1, y2]) rfl ?_
      exact ⟨m, A1, c1, A2, c2, gs, xs, rfl, hO.out.more (by omega), hL.out.1, hL.out.2, hRz.out, hgz.out⟩

end Go.Proofs.Ytccggcdjajehnaa
