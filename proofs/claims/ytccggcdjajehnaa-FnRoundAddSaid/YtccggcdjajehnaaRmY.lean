/-
  The draws of chapter 12 as the laws call them: a short round in memory of its own, a stamp; rounds compared. No condition but lengths below 2^40.
-/
import Derived.Test.YtccggcdjajehnaaRmZ
import Derived.Test.YtccggcdjajehnaaRmF
import Derived.Test.YtccggcdjajehnaaStG
namespace Go.Proofs.Ytccggcdjajehnaa
open Go.RowKit
set_option linter.unusedVariables false
set_option linter.unusedSimpArgs false

theorem RowIs.belowR {k : IntKind} {w w' : World} {a : Option Addr} {len cap : Nat} {zs : List Int} (h : RowIs k w a len cap zs) (hb : Below w.heap.size w w') : RowIs k w' a len cap zs := by
  rcases h with h | ⟨x, rfl, hl, hm, hz, hc, hw⟩
  · exact .inl h
  · exact .inr ⟨x, rfl, hl, hm, hz, fun i hi => (hb.cell (World.block_lt_of_cell? w _ (hc i hi))).trans (hc i hi), hw⟩

theorem RowIs.len_leR {k : IntKind} {w : World} {a : Option Addr} {len cap : Nat} {zs : List Int} (h : RowIs k w a len cap zs) : len ≤ 9223372036854775807 := by
  rcases h with ⟨rfl, rfl, rfl, rfl⟩ | ⟨x, rfl, hl, hm, _⟩
  · omega
  · unfold maxLen at hm; omega

theorem sameB_selfR (zs : List Int) : sameB zs zs = true := by simp [sameB]
/-- a drawn round -/
def DrR (w : World) (m : Int) (A1 : Option Addr) (c1 : Nat) (A2 : Option Addr) (c2 : Nat) (gs : List Int) (xs : List St) (w' : World) : Prop :=
  OwR w' w.heap.size A1 gs.length c1 A2 xs.length c2 gs xs ∧ (gs.length ≤ 6 ∧ xs.length ≤ 7) ∧ Below w.heap.size w w'

def DrawRV (w : World) (e : Ending) (w' : World) : Prop :=
  ∃ (m : Int) (A1 : Option Addr) (c1 : Nat) (A2 : Option Addr) (c2 : Nat) (gs : List Int) (xs : List St), e = .returned (rnV m (.slice A1 gs.length c1) (.slice A2 xs.length c2)) ∧ DrR w m A1 c1 A2 c2 gs xs w'

def DrawRS (w : World) (e : Ending) (w' : World) : Prop :=
  ∃ (m : Int) (A1 : Option Addr) (c1 : Nat) (A2 : Option Addr) (c2 : Nat) (gs : List Int) (xs : List St) (t g : Int), e = .returned (.tuple #[rnV m (.slice A1 gs.length c1) (.slice A2 xs.length c2), two t g]) ∧ DrR w m A1 c1 A2 c2 gs xs w'

set_option maxHeartbeats 2000000 in
theorem DrawRoundNew_any {a : Option Addr} {len cap : Nat} {zs : List Int} (w : World) (h : RowIs .u8 w a len cap zs) :
    Calls Try.prog 11 #[.slice a len cap] w fun e w' => ∃ (m : Int) (A : Option Addr) (c : Nat) (gs : List Int), e = .returned (.tuple #[.int .i64 m, .slice A gs.length c]) ∧ OwI w' w.heap.size (.slice A gs.length c) gs ∧ gs.length ≤ 6 ∧ Below w.heap.size w w' := by
  go_enter Try.func11, Try.ntmps11
  go_wp2_with fail
  refine (l6Open_any w h).mono ?_
  rintro e w1 ⟨rfl, r1, hb1, -⟩
  have r1' := hid r1
  have hb1' := hid hb1
  have hz := hb1.size
  clear h r1 hb1
  go_wp2_with fail
  refine (l91Message_any _ r1'.out (by omega)).mono ?_
  rintro e w2 ⟨m, rfl, r2, q2⟩
  have hB := hid (hb1'.out.grown q2 hz (fun k e => by injection e with e; omega))
  have r2' := hid r2
  have hz2 : w.heap.size ≤ w2.heap.size := hB.out.size
  clear q2 hb1' r1' r2
  go_wp2_with fail
  refine (l91Set_ex _ r2'.out (by omega)).mono ?_
  rintro e w3 ⟨A, c, gs, rfl, ho, hl, r3, q3⟩
  have hB3 := hid (hB.out.grown q3 hz2 (fun k e => by injection e with e; omega))
  have ho := hid (ho.more hz2)
  clear q3 r3 r2'
  go_wp2
  refine bodyPost_ret (v := .tuple #[.int .i64 m, .slice A gs.length c]) (by simp [results, Try.results11, go_sem]) rfl ⟨m, A, c, gs, rfl, ho.out, hl, hB3.out⟩

set_option maxHeartbeats 2000000 in
theorem DrawRoundMissing_any {a : Option Addr} {len cap : Nat} {zs : List Int} (w : World) (h : RowIs .u8 w a len cap zs) :
    Calls Try.prog 25 #[.slice a len cap] w (DrawRV w) := by
  have h0 := hid (h.alloc (.cells #[.int .i64 0, .slice none 0 0, .slice none 0 0] 28))
  have B0 := hid (below1 w (.cells #[.int .i64 0, .slice none 0 0, .slice none 0 0] 28))
  have c0 := hid (Cs.new w 28 #[.int .i64 0, .slice none 0 0, .slice none 0 0])
  have hy0 : w.heap.size < (w.alloc (.cells #[.int .i64 0, .slice none 0 0, .slice none 0 0] 28)).heap.size := c0.out.lt
  obtain ⟨w0, hw0⟩ : ∃ W, w.alloc (.cells #[.int .i64 0, .slice none 0 0, .slice none 0 0] 28) = W := ⟨_, rfl⟩
  rw [hw0] at h0 B0 c0 hy0
  replace hw0 := hid hw0
  clear h
  go_enter Try.func25, Try.ntmps25
  go_upto_region 1 with (fail)
  rw [hw0.out]
  go_wp2_with fail
  refine (l6Open_any w0 h0.out).mono ?_
  rintro e w1 ⟨rfl, r1, hb1, hz1⟩
  have r1' := hid r1
  have c1b := hid (c0.out.step hb1)
  have B1 := hid (B0.out.trans (hb1.mono B0.out.size))
  have hz1' : w0.heap.size < w1.heap.size := by omega
  clear r1 hb1 hz1 h0 c0 B0
  go_wp2_with fail
  refine (l91Round_any _ r1'.out (by omega)).mono ?_
  rintro e w2 ⟨m, A1, c1, A2, c2, gs, xs, rfl, ho, hl, hl2, hr, hg⟩
  have c3 := hid (grown_cs c1b.out hg (by intro e; injection e with e; omega))
  have B3 := hid (B1.out.grown hg B1.out.size (fun k e => by injection e with e; omega))
  have hlt : w.heap.size < w1.heap.size := by omega
  have hE := hid (show DrR w m A1 c1 A2 c2 gs xs (((w2.setCell ⟨w.heap.size, 0, none⟩ (.int .i64 m)).setCell ⟨w.heap.size, 1, none⟩ (.slice A1 gs.length c1)).setCell ⟨w.heap.size, 2, none⟩ (.slice A2 xs.length c2)) from
    ⟨(((ho.setLow (p := ⟨w.heap.size, 0, none⟩) hlt _).setLow (p := ⟨w.heap.size, 1, none⟩) hlt _).setLow (p := ⟨w.heap.size, 2, none⟩) hlt _).more (Nat.le_of_lt hlt), ⟨hl, hl2⟩, ((B3.out.setCell (p := ⟨w.heap.size, 0, none⟩) (Nat.le_refl _) _).setCell (p := ⟨w.heap.size, 1, none⟩) (Nat.le_refl _) _).setCell (p := ⟨w.heap.size, 2, none⟩) (Nat.le_refl _) _⟩)
  obtain ⟨x0, x1, x2⟩ := c3.out.three
  obtain ⟨y0, y1, y2⟩ := c3.out.free3
  have hy := hid (c3.out.set3 (.int .i64 m) (.slice A1 gs.length c1) (.slice A2 xs.length c2)).three
  clear hg hr ho B3 B1 c3 r1'
  go_wp2
  obtain ⟨q0, q1, q2⟩ := hy.out
  exact bodyPost_ret (v := rnV m (.slice A1 gs.length c1) (.slice A2 xs.length c2)) (by simp [results, Try.results25, go_sem, q0, q1, q2]) rfl ⟨m, A1, c1, A2, c2, gs, xs, rfl, hE.out⟩

set_option maxHeartbeats 2000000 in
theorem DrawRoundFinal_any {a : Option Addr} {len cap : Nat} {zs : List Int} (w : World) (h : RowIs .u8 w a len cap zs) :
    Calls Try.prog 27 #[.slice a len cap] w (DrawRV w) := by
  have h0 := hid (h.alloc (.cells #[.int .i64 0, .slice none 0 0, .slice none 0 0] 28))
  have B0 := hid (below1 w (.cells #[.int .i64 0, .slice none 0 0, .slice none 0 0] 28))
  have c0 := hid (Cs.new w 28 #[.int .i64 0, .slice none 0 0, .slice none 0 0])
  have hy0 : w.heap.size < (w.alloc (.cells #[.int .i64 0, .slice none 0 0, .slice none 0 0] 28)).heap.size := c0.out.lt
  obtain ⟨w0, hw0⟩ : ∃ W, w.alloc (.cells #[.int .i64 0, .slice none 0 0, .slice none 0 0] 28) = W := ⟨_, rfl⟩
  rw [hw0] at h0 B0 c0 hy0
  replace hw0 := hid hw0
  clear h
  go_enter Try.func27, Try.ntmps27
  go_upto_region 1 with (fail)
  rw [hw0.out]
  go_wp2_with fail
  refine (l6Open_any w0 h0.out).mono ?_
  rintro e w1 ⟨rfl, r1, hb1, hz1⟩
  have r1' := hid r1
  have c1b := hid (c0.out.step hb1)
  have B1 := hid (B0.out.trans (hb1.mono B0.out.size))
  have hz1' : w0.heap.size < w1.heap.size := by omega
  clear r1 hb1 hz1 h0 c0 B0
  go_wp2_with fail
  refine (l91Round_any _ r1'.out (by omega)).mono ?_
  rintro e w2 ⟨m, A1, c1, A2, c2, gs, xs, rfl, ho, hl, hl2, hr, hg⟩
  have c3 := hid (grown_cs c1b.out hg (by intro e; injection e with e; omega))
  have B3 := hid (B1.out.grown hg B1.out.size (fun k e => by injection e with e; omega))
  have hlt : w.heap.size < w1.heap.size := by omega
  have hE := hid (show DrR w m A1 c1 A2 c2 gs xs (((w2.setCell ⟨w.heap.size, 0, none⟩ (.int .i64 m)).setCell ⟨w.heap.size, 1, none⟩ (.slice A1 gs.length c1)).setCell ⟨w.heap.size, 2, none⟩ (.slice A2 xs.length c2)) from
    ⟨(((ho.setLow (p := ⟨w.heap.size, 0, none⟩) hlt _).setLow (p := ⟨w.heap.size, 1, none⟩) hlt _).setLow (p := ⟨w.heap.size, 2, none⟩) hlt _).more (Nat.le_of_lt hlt), ⟨hl, hl2⟩, ((B3.out.setCell (p := ⟨w.heap.size, 0, none⟩) (Nat.le_refl _) _).setCell (p := ⟨w.heap.size, 1, none⟩) (Nat.le_refl _) _).setCell (p := ⟨w.heap.size, 2, none⟩) (Nat.le_refl _) _⟩)
  obtain ⟨x0, x1, x2⟩ := c3.out.three
  obtain ⟨y0, y1, y2⟩ := c3.out.free3
  have hy := hid (c3.out.set3 (.int .i64 m) (.slice A1 gs.length c1) (.slice A2 xs.length c2)).three
  clear hg hr ho B3 B1 c3 r1'
  go_wp2
  obtain ⟨q0, q1, q2⟩ := hy.out
  exact bodyPost_ret (v := rnV m (.slice A1 gs.length c1) (.slice A2 xs.length c2)) (by simp [results, Try.results27, go_sem, q0, q1, q2]) rfl ⟨m, A1, c1, A2, c2, gs, xs, rfl, hE.out⟩

set_option maxHeartbeats 4000000 in
theorem DrawRoundAdd_any {a : Option Addr} {len cap : Nat} {zs : List Int} (w : World) (h : RowIs .u8 w a len cap zs) :
    Calls Try.prog 19 #[.slice a len cap] w (DrawRS w) := by
  have h0 := hid ((h.alloc (.cells #[.int .i64 0, .slice none 0 0, .slice none 0 0] 28)).alloc (.cells #[.int .i64 0, .int .i64 0] 33))
  have B0 := hid (below2 w (.cells #[.int .i64 0, .slice none 0 0, .slice none 0 0] 28) (.cells #[.int .i64 0, .int .i64 0] 33))
  have c0 := hid ((Cs.new w 28 #[.int .i64 0, .slice none 0 0, .slice none 0 0]).alloc (.cells #[.int .i64 0, .int .i64 0] 33))
  have s0 := hid (show Cs ((w.alloc (.cells #[.int .i64 0, .slice none 0 0, .slice none 0 0] 28)).alloc (.cells #[.int .i64 0, .int .i64 0] 33)) (w.heap.size + 1) 33 #[.int .i64 0, .int .i64 0] from Cs.new' _ _ _ (by simp))
  have hy0 : w.heap.size + 1 < ((w.alloc (.cells #[.int .i64 0, .slice none 0 0, .slice none 0 0] 28)).alloc (.cells #[.int .i64 0, .int .i64 0] 33)).heap.size := s0.out.lt
  obtain ⟨w0, hw0⟩ : ∃ W, (w.alloc (.cells #[.int .i64 0, .slice none 0 0, .slice none 0 0] 28)).alloc (.cells #[.int .i64 0, .int .i64 0] 33) = W := ⟨_, rfl⟩
  rw [hw0] at h0 B0 c0 s0 hy0
  replace hw0 := hid hw0
  clear h
  go_enter Try.func19, Try.ntmps19
  go_upto_region 1 with (fail)
  rw [hw0.out]
  go_wp2_with fail
  refine (l6Open_any w0 h0.out).mono ?_
  rintro e w1 ⟨rfl, r1, hb1, hz1⟩
  have r1' := hid r1
  have c1b := hid (c0.out.step hb1)
  have s1b := hid (s0.out.step hb1)
  have B1 := hid (B0.out.trans (hb1.mono B0.out.size))
  have hz1' : w0.heap.size < w1.heap.size := by omega
  clear r1 hb1 hz1 h0 c0 s0 B0
  go_wp2_with fail
  refine (l91Round_any _ r1'.out (by omega)).mono ?_
  rintro e w2 ⟨m, A1, c1, A2, c2, gs, xs, rfl, ho, hl, hl2, hr, hg⟩
  have c3 := hid (grown_cs c1b.out hg (by intro e; injection e with e; omega))
  have s3 := hid (grown_cs s1b.out hg (by intro e; injection e with e; omega))
  have B3 := hid (B1.out.grown hg B1.out.size (fun k e => by injection e with e; omega))
  have hz2 : w1.heap.size ≤ w2.heap.size := hg.size
  have ho := hid ho
  have hr := hid hr
  clear hg B1 c1b s1b r1'
  go_upto_region 3 with (fail)
  obtain ⟨w3, hw3⟩ : ∃ W, w2.alloc (.cells #[.int .i64 m, .slice A1 gs.length c1, .slice A2 xs.length c2] 28) = W := ⟨_, rfl⟩
  rw [hw3]
  have hb3 : Below w2.heap.size w2 w3 := by rw [← hw3]; exact below1 _ _
  have d3 := hid (show Cs w3 w2.heap.size 28 #[.int .i64 m, .slice A1 gs.length c1, .slice A2 xs.length c2] by rw [← hw3]; exact Cs.new _ _ _)
  have c4 := hid (c3.out.step hb3)
  have s4 := hid (s3.out.step hb3)
  have B4 := hid (B3.out.trans (hb3.mono (by omega)))
  have o4 := hid (ho.out.below hb3)
  have r4 := hid (hr.out.below hb3 (by have := hr.out.lt; omega))
  have hz3 : w1.heap.size ≤ w3.heap.size := Nat.le_trans hz2 hb3.size
  obtain ⟨xb, hxb⟩ : ∃ xb, w2.heap.size = xb := ⟨_, rfl⟩
  have hxl : w1.heap.size ≤ xb := by omega
  rw [hxb] at d3 ⊢
  clear hw3 hb3 hxb c3 s3 B3 ho hr
  have r4d := hid (show Rdr w3.drew w0.heap.size w0.heap.size (0 + 60) from r4.out)
  obtain ⟨x0, x1, x2⟩ := d3.out.three
  obtain ⟨y0, y1, y2⟩ := c4.out.three
  obtain ⟨z0, z1, z2, z3⟩ := s4.out.two
  obtain ⟨f0, f1, f2⟩ := c4.out.free3
  have hxb1 : xb ≠ w0.heap.size := by omega
  go_region_law (go_simp; go_at_call 43; (with_reducible refine (l91Stamp_any _ r4d.out (by omega)).mono ?_); rintro e w6 ⟨t, g, rfl, r6, q6⟩; have q6' : w3.grownBy w6 (some w0.heap.size) := ⟨q6.os, q6.tape, q6.output, q6.size, q6.block⟩; have d6 := hid (grown_cs d3.out q6' (by intro e; injection e with e; omega)); have c6 := hid (grown_cs c4.out q6' (by intro e; injection e with e; omega)); have s6 := hid (grown_cs s4.out q6' (by intro e; injection e with e; omega)); obtain ⟨u0, u1, u2⟩ := d6.out.three; obtain ⟨v0, v1, v2⟩ := c6.out.three; obtain ⟨w60, w61, w62, w63⟩ := s6.out.two; obtain ⟨g0, g1, g2⟩ := c6.out.free3; have B6 := hid (B4.out.grown q6' (by omega) (fun k e => by injection e with e; omega)); have o6 := hid (show OwR w6 w1.heap.size A1 gs.length c1 A2 xs.length c2 gs xs from ⟨o4.out.og.kp ((Kp.refl (fun b => b = w0.heap.size) w3).grown q6' (fun k e => .inr (by injection e with e; exact e.symm))) (fun b hb e => by have := (o4.out.og.lt b hb).1; omega), o4.out.os.kp ((Kp.refl (fun b => b = w0.heap.size) w3).grown q6' (fun k e => .inr (by injection e with e; exact e.symm))) (fun b hb e => by have := (o4.out.os.lt b hb).1; omega), rfl, rfl⟩); clear q6 q6' r6)
  all_goals
    have hlt : w.heap.size < w1.heap.size := by omega
    have hlt2 : w.heap.size + 1 < w1.heap.size := by omega
    have hE := hid (show DrR w m A1 c1 A2 c2 gs xs (((((w6.setCell ⟨w.heap.size, 0, none⟩ (.int .i64 m)).setCell ⟨w.heap.size, 1, none⟩ (.slice A1 gs.length c1)).setCell ⟨w.heap.size, 2, none⟩ (.slice A2 xs.length c2)).setCell ⟨w.heap.size + 1, 0, none⟩ (.int .i64 t)).setCell ⟨w.heap.size + 1, 1, none⟩ (.int .i64 g)) from
      ⟨(((((o6.out.setLow (p := ⟨w.heap.size, 0, none⟩) hlt _).setLow (p := ⟨w.heap.size, 1, none⟩) hlt _).setLow (p := ⟨w.heap.size, 2, none⟩) hlt _).setLow (p := ⟨w.heap.size + 1, 0, none⟩) hlt2 _).setLow (p := ⟨w.heap.size + 1, 1, none⟩) hlt2 _).more (Nat.le_of_lt hlt), ⟨hl, hl2⟩, ((((B6.out.setCell (p := ⟨w.heap.size, 0, none⟩) (Nat.le_refl _) _).setCell (p := ⟨w.heap.size, 1, none⟩) (Nat.le_refl _) _).setCell (p := ⟨w.heap.size, 2, none⟩) (Nat.le_refl _) _).setCell (p := ⟨w.heap.size + 1, 0, none⟩) (Nat.le_succ _) _).setCell (p := ⟨w.heap.size + 1, 1, none⟩) (Nat.le_succ _) _⟩)
    have hy := hid (((c6.out.set3 (.int .i64 m) (.slice A1 gs.length c1) (.slice A2 xs.length c2)).far (p := ⟨w.heap.size + 1, 0, none⟩) (by simp) (.int .i64 t)).far (p := ⟨w.heap.size + 1, 1, none⟩) (by simp) (.int .i64 g)).three
    have hs := hid (((((s6.out.far (p := ⟨w.heap.size, 0, none⟩) (by simp) (.int .i64 m)).far (p := ⟨w.heap.size, 1, none⟩) (by simp) (.slice A1 gs.length c1)).far (p := ⟨w.heap.size, 2, none⟩) (by simp) (.slice A2 xs.length c2)).set 0 (.int .i64 t)).set 1 (.int .i64 g) : Cs _ _ _ #[.int .i64 t, .int .i64 g]).two
    go_wp2
    obtain ⟨q0, q1, q2⟩ := hy.out
    obtain ⟨q3, q4, -, -⟩ := hs.out
    exact bodyPost_ret (v := .tuple #[rnV m (.slice A1 gs.length c1) (.slice A2 xs.length c2), two t g]) (by simp [results, Try.results19, go_sem, q0, q1, q2, q3, q4]) rfl ⟨m, A1, c1, A2, c2, gs, xs, t, g, rfl, hE.out⟩

set_option maxHeartbeats 4000000 in
theorem sameStamps_same {n c c' : Nat} {A A' : Option Addr} {zs : List St} (w : World) (h : RdS w A n zs) (k : RdS w A' n zs) (hn : n < 1099511627776) :
    Calls Try.prog 38 #[.slice A n c, .slice A' n c'] w fun e w' => e = .returned (.bool true) ∧ Below w.heap.size w w' := by
  have h' := hid h
  have k' := hid k
  clear h k
  go_enter Try.func38, Try.ntmps38
  go_wp2
  go_loopw [5] (fun i wr => ∃ j : Nat, j ≤ n ∧ i = .int .i64 j ∧ Hid (Below w.heap.size w wr)) (fun i _ => n - (intOf i).toNat)
  case atStart => exact ⟨0, by omega, rfl, hid (Below.refl _ _)⟩
  case round =>
    obtain ⟨j, hj, rfl, hB⟩ := hrel
    have hsz := hB.out.size
    by_cases hlt : j < n
    · obtain ⟨b, off, t, g, rfl, hx, hb, d0, d1⟩ := (h'.out.below hB.out).at_ hlt
      obtain ⟨b2, off2, t2, g2, rfl, hx2, hb2, f0, f1⟩ := (k'.out.below hB.out).at_ hlt
      have e := hx.out.symm.trans hx2.out
      injection e with e
      injection e with e1 e2
      subst e1; subst e2
      have i0 : (0 : Int) ≤ (j : Int) := by omega
      have i1 : (j : Int) < (n : Int) := by omega
      have C0 : ∀ x : BW wr, x.wd.cell? ⟨b, off + j * 2, none⟩ = some (.int .i64 t) := fun x => x.cell d0
      have C1 : ∀ x : BW wr, x.wd.cell? ⟨b, off + j * 2 + 1, none⟩ = some (.int .i64 g) := fun x => x.cell d1
      have D0 : ∀ x : BW wr, x.wd.cell? ⟨b2, off2 + j * 2, none⟩ = some (.int .i64 t) := fun x => x.cell f0
      have D1 : ∀ x : BW wr, x.wd.cell? ⟨b2, off2 + j * 2 + 1, none⟩ = some (.int .i64 g) := fun x => x.cell f1
      clear d0 d1 f0 f1 hx hx2
      go_wp2_with fail
      refine wp_region_below (by kernel_rfl) (by kernel_rfl) ?_
      repeat (go_big_quiet_step (fail))
      refine wpQuiet_nil ?_
      intro w1 hb1
      have B5 := hid (hB.out.trans (hb1.mono hsz))
      clear hb1
      go_wp2
      go_roundw
      case rel => exact ⟨j + 1, by omega, by go_num, B5⟩
      case measure => simp [intOf]; omega
    · go_wp2
      go_ret
      exact ⟨rfl, hB.out⟩

set_option maxHeartbeats 1000000 in
theorem sameRound_same {n1 c1 n2 c2 d1 d2 : Nat} {A1 A2 B1 B2 : Option Addr} {gs : List Int} {xs : List St} (m : Int) (w : World) (h1 : RdI w w.heap.size A1 n1 gs) (h2 : RdS w A2 n2 xs) (h3 : RdI w w.heap.size B1 n1 gs) (h4 : RdS w B2 n2 xs) (hn1 : n1 < 1099511627776) (hn2 : n2 < 1099511627776) :
    Calls Try.prog 14 #[rnV m (.slice A1 n1 c1) (.slice A2 n2 c2), rnV m (.slice B1 n1 d1) (.slice B2 n2 d2)] w fun e w' => e = .returned (.bool true) ∧ Below w.heap.size w w' := by
  obtain ⟨w0, hw0⟩ : ∃ W, ((w.alloc (.cells #[.int .i64 m, .slice A1 n1 c1, .slice A2 n2 c2] 28)).alloc (.cells #[.int .i64 m, .slice B1 n1 d1, .slice B2 n2 d2] 28)) = W := ⟨_, rfl⟩
  have B := hid (show Below w.heap.size w w0 by rw [← hw0]; exact below2 w _ _)
  have C0 := hid (show Cs w0 w.heap.size 28 #[.int .i64 m, .slice A1 n1 c1, .slice A2 n2 c2] by rw [← hw0]; exact (Cs.new w _ _).alloc _)
  have C1 := hid (show Cs w0 (w.heap.size + 1) 28 #[.int .i64 m, .slice B1 n1 d1, .slice B2 n2 d2] by rw [← hw0]; exact Cs.new' _ _ _ (by simp))
  have r1 := hid ((Reads.below h1 B.out).more B.out.size)
  have r2 := hid (h2.below B.out)
  have r3 := hid ((Reads.below h3 B.out).more B.out.size)
  have r4 := hid (h4.below B.out)
  have hz0 : w.heap.size ≤ w0.heap.size := B.out.size
  have e9 : (m == m) = true := by simp
  replace hw0 := hid hw0
  clear h1 h2 h3 h4
  go_enter Try.func14, Try.ntmps14
  go_upto_region 1 with (fail)
  rw [hw0.out]
  obtain ⟨a0, a1, a2⟩ := C0.out.three
  obtain ⟨b0, b1, b2⟩ := C1.out.three
  go_wp2_with fail
  refine (sameInts_any _ r1.out r3.out hn1 hn1).mono ?_
  rw [sameB_selfR]
  rintro e w1 ⟨rfl, hq⟩
  have hb1 := hq.below w0.heap.size
  have D0 := hid (C0.out.step hb1)
  have D1 := hid (C1.out.step hb1)
  have s2 := hid (r2.out.below hb1)
  have s4 := hid (r4.out.below hb1)
  have hB1 := hid (B.out.trans (hb1.mono hz0))
  have hz1 : w.heap.size ≤ w1.heap.size := Nat.le_trans hz0 hb1.size
  clear hq hb1 a0 a1 a2 b0 b1 b2 C0 C1 r1 r2 r3 r4 B
  obtain ⟨a0, a1, a2⟩ := D0.out.three
  obtain ⟨b0, b1, b2⟩ := D1.out.three
  go_wp2_with fail
  refine (sameStamps_same _ s2.out s4.out hn2).mono ?_
  rintro e w2 ⟨rfl, hb2⟩
  have hB2 := hid (hB1.out.trans (hb2.mono hz1))
  clear hb2 a0 a1 a2 b0 b1 b2
  go_wp2
  go_ret
  exact ⟨rfl, hB2.out⟩

/-! ### a round that is live -/
structure Lr (w : World) (lo hi : Nat) (A1 : Option Addr) (n1 c1 : Nat) (A2 : Option Addr) (n2 c2 : Nat) (gs : List Int) (xs : List St) : Prop where
  ow : OwR w lo A1 n1 c1 A2 n2 c2 gs xs
  hb : ∀ b, (Value.slice A1 n1 c1).ownBlock = some b ∨ (Value.slice A2 n2 c2).ownBlock = some b → b < hi
  hi : hi ≤ w.heap.size
section
variable {w w' : World} {S : Nat → Prop} {lo hi n1 c1 n2 c2 : Nat} {A1 A2 : Option Addr} {gs : List Int} {xs : List St}

theorem Lr.of (h : OwR w lo A1 n1 c1 A2 n2 c2 gs xs) : Lr w lo w.heap.size A1 n1 c1 A2 n2 c2 gs xs :=
  ⟨h, fun b hb => by rcases hb with hb | hb; exact (h.og.lt b hb).2; exact (h.os.lt b hb).2, Nat.le_refl _⟩

theorem Lr.step (h : Lr w lo hi A1 n1 c1 A2 n2 c2 gs xs) (hb : Below w.heap.size w w') : Lr w' lo hi A1 n1 c1 A2 n2 c2 gs xs := ⟨h.ow.below hb, h.hb, Nat.le_trans h.hi hb.size⟩

theorem Lr.kp (h : Lr w lo hi A1 n1 c1 A2 n2 c2 gs xs) (hk : Kp S w w') (hS : ∀ b, lo ≤ b → b < hi → ¬ S b) : Lr w' lo hi A1 n1 c1 A2 n2 c2 gs xs :=
  ⟨⟨h.ow.og.kp hk (fun k hk' => hS k (h.ow.og.lt k hk').1 (h.hb k (.inl hk'))), h.ow.os.kp hk (fun k hk' => hS k (h.ow.os.lt k hk').1 (h.hb k (.inr hk'))), h.ow.l1, h.ow.l2⟩, h.hb, Nat.le_trans h.hi hk.size⟩

theorem Lr.kpo (h : Lr w lo hi A1 n1 c1 A2 n2 c2 gs xs) (hk : Kp S w w') (h1 : ∀ b, (Value.slice A1 n1 c1).ownBlock = some b → ¬ S b) (h2 : ∀ b, (Value.slice A2 n2 c2).ownBlock = some b → ¬ S b) : Lr w' lo hi A1 n1 c1 A2 n2 c2 gs xs :=
  ⟨⟨h.ow.og.kp hk h1, h.ow.os.kp hk h2, h.ow.l1, h.ow.l2⟩, h.hb, Nat.le_trans h.hi hk.size⟩

theorem Lr.r1 (h : Lr w lo hi A1 n1 c1 A2 n2 c2 gs xs) : RdI w w.heap.size A1 n1 gs := h.ow.og.rd_ h.ow.l1

theorem Lr.r2 (h : Lr w lo hi A1 n1 c1 A2 n2 c2 gs xs) : RdS w A2 n2 xs := h.ow.os.rd h.ow.l2
end


theorem nwRo_len {m om : Int} {gs og : List Int} {ox : List St} {ok : Bool} (h : nwRo m gs = ⟨om, og, ox, ok⟩) : og.length ≤ gs.length ∧ ox.length = 0 := by
  unfold nwRo at h
  split at h
  · injection h with h1 h2 h3 h4
    rw [← h2, ← h3]; exact ⟨Nat.le_refl _, rfl⟩
  · injection h with h1 h2 h3 h4
    rw [← h2, ← h3]; exact ⟨Nat.zero_le _, rfl⟩

theorem RoundNew_specE {n1 c1 : Nat} {A1 : Option Addr} {gs og : List Int} {ox : List St} {m om : Int} {ok : Bool} (hO : nwRo m gs = ⟨om, og, ox, ok⟩) (w : World) (hr : RdI w w.heap.size A1 n1 gs) (hn : n1 < 1099511627776) :
    Calls Try.prog 13 #[.int .i64 m, .slice A1 n1 c1] w fun e w' => ∃ (A1 : Option Addr) (c1 : Nat) (A2 : Option Addr) (c2 : Nat), e = .returned (.tuple #[rnV om (.slice A1 og.length c1) (.slice A2 ox.length c2), .bool ok]) ∧ OwR w' w.heap.size A1 og.length c1 A2 ox.length c2 og ox ∧ Below w.heap.size w w' :=
  (RoundNew_spec hO w hr hn).mono fun e w' h => h

theorem RoundNew_implE {n1 c1 : Nat} {A1 : Option Addr} {gs og : List Int} {ox : List St} {m om : Int} {ok : Bool} (hO : nwRo m gs = ⟨om, og, ox, ok⟩) (w : World) (hr : RdI w w.heap.size A1 n1 gs) (hn : n1 < 1099511627776) :
    Calls Try.prog 12 #[.int .i64 m, .slice A1 n1 c1] w fun e w' => ∃ (A1 : Option Addr) (c1 : Nat) (A2 : Option Addr) (c2 : Nat), e = .returned (.tuple #[rnV om (.slice A1 og.length c1) (.slice A2 ox.length c2), .bool ok]) ∧ OwR w' w.heap.size A1 og.length c1 A2 ox.length c2 og ox ∧ Below w.heap.size w w' :=
  (RoundNew_impl hO w hr hn).mono fun e w' h => h

theorem adR_len {m om : Int} {gs og : List Int} {xs ox : List St} {s : St} {ok : Bool} (h : adR m gs xs s = ⟨om, og, ox, ok⟩) : og.length ≤ gs.length ∧ ox.length ≤ xs.length + 1 := by
  unfold adR at h
  split at h
  · unfold adA at h
    split at h
    · injection h with h1 h2 h3 h4
      rw [← h2, ← h3, insS_len]; exact ⟨Nat.le_refl _, Nat.le_refl _⟩
    · injection h with h1 h2 h3 h4
      rw [← h2, ← h3]; exact ⟨Nat.le_refl _, Nat.le_succ _⟩
  · injection h with h1 h2 h3 h4
    rw [← h2, ← h3]; exact ⟨Nat.zero_le _, Nat.zero_le _⟩

theorem RoundAdd_specE {n1 c1 n2 c2 : Nat} {A1 A2 : Option Addr} {gs og : List Int} {xs ox : List St} {m t g om : Int} {ok : Bool} (hO : adR m gs xs (t, g) = ⟨om, og, ox, ok⟩) (w : World) (hr : RdR w A1 n1 A2 n2 c2 gs xs) :
    Calls Try.prog 21 #[rnV m (.slice A1 n1 c1) (.slice A2 n2 c2), two t g] w fun e w' => ∃ (B1 : Option Addr) (d1 : Nat) (B2 : Option Addr) (d2 : Nat), e = .returned (.tuple #[rnV om (.slice B1 og.length d1) (.slice B2 ox.length d2), .bool ok]) ∧ OwR w' w.heap.size B1 og.length d1 B2 ox.length d2 og ox ∧ Below w.heap.size w w' :=
  (RoundAdd_spec hO w hr).mono fun e w' h => h

theorem RoundAdd_implE {n1 c1 n2 c2 : Nat} {A1 A2 : Option Addr} {gs og : List Int} {xs ox : List St} {m t g om : Int} {ok : Bool} (hO : adR m gs xs (t, g) = ⟨om, og, ox, ok⟩) (w : World) (hr : RdR w A1 n1 A2 n2 c2 gs xs) :
    Calls Try.prog 20 #[rnV m (.slice A1 n1 c1) (.slice A2 n2 c2), two t g] w fun e w' => ∃ (B1 : Option Addr) (d1 : Nat) (B2 : Option Addr) (d2 : Nat), e = .returned (.tuple #[rnV om (.slice B1 og.length d1) (.slice B2 ox.length d2), .bool ok]) ∧ OwR w' w.heap.size B1 og.length d1 B2 ox.length d2 og ox ∧ Below w.heap.size w w' :=
  (RoundAdd_impl hO w hr).mono fun e w' h => h

theorem misR_len {m : Int} {gs M : List Int} {xs : List St} (h : misR m gs xs = M) : M.length ≤ gs.length := by
  rw [← h, misR]
  split
  · exact List.length_filter_le _ _
  · exact Nat.zero_le _

end Go.Proofs.Ytccggcdjajehnaa
