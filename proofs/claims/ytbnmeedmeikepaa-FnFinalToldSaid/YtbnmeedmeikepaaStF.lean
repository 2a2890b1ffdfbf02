/-
  The draws of stamps and hybrid times: l91Stamp, l91Hybrid, l91Wall and what draws pairs of them: some values, nothing else turned. No condition.
-/
import Derived.Test.YtbnmeedmeikepaaAt2
import Derived.Test.YtbnmeedmeikepaaDrawA
import Derived.Deep.RegionHeld3
namespace Go.Proofs.Ytbnmeedmeikepaa
open Go.RowKit

/-- grownBy through an allocation and writes to blocks of the call's own -/
theorem grown_far {w wr : World} {row : Option Nat} (h : w.grownBy wr row) {p : Addr} (hp : w.heap.size ≤ p.block) (u : Value) : w.grownBy (wr.setCell p u) row :=
  ⟨h.os, h.tape, h.output, by simpa [World.setCell] using h.size, fun i hi hne => (heap_setCell_other wr p i u (by omega)).trans (h.block i hi hne)⟩

theorem grown_alloc {w wr : World} {row : Option Nat} (h : w.grownBy wr row) (o : Obj) : w.grownBy (wr.alloc o) row :=
  grown_set h (World.grownBy_alloc wr o row)

theorem Rdr.far {w : World} {B g P : Nat} (h : Rdr w B g P) {p : Addr} (hp : g < p.block) (u : Value) : Rdr (w.setCell p u) B g P := h.keep fun k hk => heap_setCell_other w p k u (by omega)

theorem Rdr.allocs {w : World} {B g P : Nat} (h : Rdr w B g P) (o : Obj) : Rdr (w.alloc o) B g P := h.keep fun k hk => Below.heap_alloc w o k (by have := h.lt; omega)

def StampPost (B g P : Nat) (w : World) (e : Ending) (w' : World) : Prop :=
  ∃ t k : Int, e = .returned (two t k) ∧ Rdr w' B g (P + 4) ∧ w.grownBy w' (some g)

def IntPost (B g P : Nat) (w : World) (e : Ending) (w' : World) : Prop :=
  ∃ t : Int, e = .returned (.int .i64 t) ∧ Rdr w' B g (P + 4) ∧ w.grownBy w' (some g)

set_option maxHeartbeats 2000000 in
theorem l91Stamp_any {B g P : Nat} (w : World) (h : Rdr w B g P) (hP : P ≤ 900000) :
    Calls Try.prog 32 #[.pointer (some ⟨g, 0, none⟩)] w (StampPost B g P w) := by
  have hg := h.lt
  have r0 := hid (h.allocs (.cells #[.int .i64 0, .int .i64 0] 29))
  have g0 := hid (World.grownBy_alloc w (.cells #[.int .i64 0, .int .i64 0] 29) (some g))
  have a0 := hid (At2.new w 29 0 0)
  clear h
  go_enter Try.func32, Try.ntmps32
  go_wp2_with fail
  refine (pick_any 8 _ r0.out (by omega) (by omega) (by omega)).mono ?_
  rintro e w1 ⟨x1, rfl, hx1, hy1, r1, q1, s1⟩
  have a1 := hid (a0.out.grown q1 (by omega))
  have g1 := hid (grown_set g0.out q1)
  clear q1 s1 r0 g0 a0
  go_wp2_with fail
  refine (pick_any 5 _ r1 (by omega) (by omega) (by omega)).mono ?_
  rintro e w2 ⟨x2, rfl, hx2, hy2, r2, q2, s2⟩
  have a2 := hid (a1.out.grown q2 (by omega))
  have g2 := hid (grown_set g1.out q2)
  clear q2 s2 r1 g1 a1
  have r2' := hid (r2.allocs (.cells #[.int .i64 (1 + x1), .int .i64 x2] 29))
  have hz := a2.out.lt
  have hzg := g2.out.size
  have hgz2 := r2.lt
  have g2' := hid (grown_alloc g2.out (.cells #[.int .i64 (1 + x1), .int .i64 x2] 29))
  have a2' := hid (a2.out.alloc (.cells #[.int .i64 (1 + x1), .int .i64 x2] 29))
  have b2 := hid (At2.new w2 29 (1 + x1) x2)
  clear r2 a2 g2
  go_wp2_with fail
  refine (pick_any 24 _ r2'.out (by omega) (by omega) (by omega)).mono ?_
  rintro e w3 ⟨x3, rfl, hx3, hy3, r3, q3, s3⟩
  have a3 := hid (a2'.out.grown q3 (by omega))
  have b3 := hid (b2.out.grown q3 (by omega))
  have g3 := hid (grown_set g2'.out q3)
  clear q3 s3 r2' a2' g2' b2
  rcases (show x3 = 0 ∨ x3 = 1 ∨ 2 ≤ x3 by omega) with rfl | rfl | hx
  · have r3' := hid (r3.allocs (.cells #[.int .i64 0, .int .i64 (-1), .int .i64 999, .int .i64 1000] 3))
    have a3' := hid (a3.out.alloc (.cells #[.int .i64 0, .int .i64 (-1), .int .i64 999, .int .i64 1000] 3))
    have b3' := hid (b3.out.alloc (.cells #[.int .i64 0, .int .i64 (-1), .int .i64 999, .int .i64 1000] 3))
    have g3' := hid (grown_alloc g3.out (.cells #[.int .i64 0, .int .i64 (-1), .int .i64 999, .int .i64 1000] 3))
    have l3 : AtN (w3.alloc (.cells #[.int .i64 0, .int .i64 (-1), .int .i64 999, .int .i64 1000] 3)) w3.heap.size 3 [0, -1, 999, 1000] := heap_alloc_new w3 _
    have l3' := hid l3
    have hz3 := b3.out.lt
    have hgz := r3.lt
    clear a3 b3 g3 r3 l3
    go_wp2_with fail
    refine (pick_any 4 _ r3'.out (by omega) (by omega) (by omega)).mono ?_
    rintro e w4 ⟨x4, rfl, hx4, hy4, r4, q4, s4⟩
    have a4 := hid (a3'.out.grown q4 (by omega))
    have b4 := hid (b3'.out.grown q4 (by omega))
    have g4 := hid (grown_set g3'.out q4)
    have l4 := hid (l3'.out.grown q4 (by omega))
    obtain ⟨k, rfl⟩ := Int.eq_ofNat_of_zero_le hx4
    obtain ⟨z, hz⟩ := l4.out.cell (k := k) (by simp; omega)
    have hz4 : w3.heap.size < w4.heap.size := by rw [s4]; simp
    clear q4 s4 a3' b3' g3' l3' r3' l4
    have c0 := b4.out.c0
    have c1 := b4.out.c1
    have e0 := b4.out.f0
    have e1 := b4.out.f1
    have d0 := a4.out.f0
    have d1 := a4.out.f1
    have d2 := a4.out.c0
    have d3 := a4.out.c1
    have hnb : w.heap.size ≠ w2.heap.size := by omega
    have hd2 := hid ((a4.out.far (p := ⟨w2.heap.size, 0, none⟩) hnb (.int .i64 z)).c0)
    have hd3 := hid ((a4.out.far (p := ⟨w2.heap.size, 0, none⟩) hnb (.int .i64 z)).c1)
    go_wp2
    refine bodyPost_ret (v := two z x2) (by simp [results, Try.results32, go_sem, hd2.out, hd3.out]) rfl ⟨_, _, rfl, ?_, ?_⟩
    · exact ((r4.far (show g < w2.heap.size by omega) _).far hg _).far hg _
    · exact grown_far (grown_far (grown_far g4.out hzg _) (Nat.le_refl _) _) (Nat.le_refl _) _
  · have r3' := hid r3
    have hgz := r3.lt
    clear r3
    go_wp2_with fail
    refine (pick_any 7 _ r3'.out (by omega) (by omega) (by omega)).mono ?_
    rintro e w4 ⟨x4, rfl, hx4, hy4, r4, q4, s4⟩
    have a4 := hid (a3.out.grown q4 (by omega))
    have b4 := hid (b3.out.grown q4 (by omega))
    have g4 := hid (grown_set g3.out q4)
    clear q4 s4 a3 b3 g3
    have c0 := b4.out.c0
    have c1 := b4.out.c1
    have e0 := b4.out.f0
    have e1 := b4.out.f1
    have d0 := a4.out.f0
    have d1 := a4.out.f1
    have d2 := a4.out.c0
    have d3 := a4.out.c1
    have hnb : w.heap.size ≠ w2.heap.size := by omega
    have hd2 := hid ((a4.out.far (p := ⟨w2.heap.size, 1, none⟩) hnb (.int .i64 (x4 - 1))).c0)
    have hd3 := hid ((a4.out.far (p := ⟨w2.heap.size, 1, none⟩) hnb (.int .i64 (x4 - 1))).c1)
    go_wp2
    refine bodyPost_ret (v := two (1 + x1) (x4 - 1)) (by simp [results, Try.results32, go_sem, hd2.out, hd3.out]) rfl ⟨_, _, rfl, ?_, ?_⟩
    · exact ((r4.far (show g < w2.heap.size by omega) _).far hg _).far hg _
    · exact grown_far (grown_far (grown_far g4.out hzg _) (Nat.le_refl _) _) (Nat.le_refl _) _
  · have e0 : (x3 == 0) = false := by simp; omega
    have e1 : (x3 == 1) = false := by simp; omega
    have c0 := b3.out.c0
    have c1 := b3.out.c1
    have d0 := a3.out.f0
    have d1 := a3.out.f1
    have d2 := a3.out.c0
    have d3 := a3.out.c1
    go_wp2
    refine bodyPost_ret (v := two (1 + x1) x2) (by simp [results, Try.results32, go_sem, d2, d3]) rfl ⟨_, _, rfl, ?_, ?_⟩
    · exact ((r3.le (by omega)).far hg _).far hg _
    · exact grown_far (grown_far (g3.out) (Nat.le_refl _) _) (Nat.le_refl _) _

end Go.Proofs.Ytbnmeedmeikepaa
