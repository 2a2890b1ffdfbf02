/-
  The draws of stamps and hybrid times: l91Stamp, l91Hybrid, l91Wall and what draws pairs of them: some values, nothing else turned. No condition.
-/
import Derived.Test.YtmnkamonkmoapaaStE
import Derived.Test.YtmnkamonkmoapaaDrawA
import Derived.Deep.RegionHeld3
namespace Go.Proofs.Ytmnkamonkmoapaa
open Go.RowKit

/-- block b is a struct of two ints -/
def At2 (w : World) (b : Nat) (T : TypeId) (x y : Int) : Prop := w.heap[b]? = some (.cells #[.int .i64 x, .int .i64 y] T (0, 0))
section
variable {w w' : World} {b : Nat} {T : TypeId} {x y : Int}

theorem At2.lt (h : At2 w b T x y) : b < w.heap.size := (Array.getElem?_eq_some_iff.1 h).1

theorem At2.c0 (h : At2 w b T x y) : w.cell? ⟨b, 0, none⟩ = some (.int .i64 x) := by rw [cell_of_row w b 0 _ _ (0, 0) h]; rfl

theorem At2.c1 (h : At2 w b T x y) : w.cell? ⟨b, 1, none⟩ = some (.int .i64 y) := by rw [cell_of_row w b 1 _ _ (0, 0) h]; rfl

theorem At2.f0 (h : At2 w b T x y) : w.frozen? ⟨b, 0, none⟩ = false := frozen_of_row w b 0 _ _ h

theorem At2.f1 (h : At2 w b T x y) : w.frozen? ⟨b, 1, none⟩ = false := frozen_of_row w b 1 _ _ h

theorem At2.keep (h : At2 w b T x y) (hb : w'.heap[b]? = w.heap[b]?) : At2 w' b T x y := hb.trans h

theorem At2.grown {g : Nat} (h : At2 w b T x y) (hg : w.grownBy w' (some g)) (hne : b ≠ g) : At2 w' b T x y := h.keep (hg.block b h.lt (fun e => hne (by injection e)))

theorem At2.below {B : Nat} (h : At2 w b T x y) (hb : Below B w w') (hB : b < B) : At2 w' b T x y := h.keep (hb.block b hB)

theorem At2.new (w : World) (T : TypeId) (x y : Int) : At2 (w.alloc (.cells #[.int .i64 x, .int .i64 y] T)) w.heap.size T x y := heap_alloc_new w _

theorem At2.alloc (h : At2 w b T x y) (o : Obj) : At2 (w.alloc o) b T x y := h.keep (Below.heap_alloc w o b h.lt)

theorem At2.set0 (h : At2 w b T x y) (z : Int) : At2 (w.setCell ⟨b, 0, none⟩ (.int .i64 z)) b T z y := by
  unfold At2; rw [heap_setCell_same w b 0 _ _ _ h]; rfl

theorem At2.set1 (h : At2 w b T x y) (z : Int) : At2 (w.setCell ⟨b, 1, none⟩ (.int .i64 z)) b T x z := by
  unfold At2; rw [heap_setCell_same w b 1 _ _ _ h]; rfl

theorem At2.far (h : At2 w b T x y) {p : Addr} (hne : b ≠ p.block) (u : Value) : At2 (w.setCell p u) b T x y := h.keep (heap_setCell_other w p b u hne)

theorem At2.drewN (h : At2 w b T x y) (n : Nat) : At2 (w.drewN n) b T x y := h

theorem At2.drew (h : At2 w b T x y) : At2 w.drew b T x y := h
end
/-- a row of ints that lies in block b -/
def AtN (w : World) (b : Nat) (T : TypeId) (zs : List Int) : Prop := w.heap[b]? = some (.cells (ints zs).toArray T (0, 0))

theorem AtN.grown {w w' : World} {b g : Nat} {T : TypeId} {zs : List Int} (h : AtN w b T zs) (hg : w.grownBy w' (some g)) (hne : b ≠ g) : AtN w' b T zs :=
  (hg.block b (Array.getElem?_eq_some_iff.1 h).1 (fun e => hne (by injection e))).trans h

theorem AtN.cell {w : World} {b : Nat} {T : TypeId} {zs : List Int} (h : AtN w b T zs) {k : Nat} (hk : k < zs.length) : ∃ z : Int, w.cell? ⟨b, k, none⟩ = some (.int .i64 z) := by
  refine ⟨zs[k], ?_⟩
  rw [cell_of_row w b k _ _ (0, 0) h]
  simp [ints, hk]

/-- grownBy through an allocation and writes to blocks of the call's own -/
theorem grown_far {w wr : World} {row : Option Nat} (h : w.grownBy wr row) {p : Addr} (hp : w.heap.size ≤ p.block) (u : Value) : w.grownBy (wr.setCell p u) row :=
  ⟨h.os, h.tape, h.output, by simpa [World.setCell] using h.size, fun i hi hne => (heap_setCell_other wr p i u (by omega)).trans (h.block i hi hne)⟩

theorem grown_alloc {w wr : World} {row : Option Nat} (h : w.grownBy wr row) (o : Obj) : w.grownBy (wr.alloc o) row :=
  grown_set h (World.grownBy_alloc wr o row)

theorem Rdr.far {w : World} {B g P : Nat} (h : Rdr w B g P) {p : Addr} (hp : g < p.block) (u : Value) : Rdr (w.setCell p u) B g P := h.keep fun k hk => heap_setCell_other w p k u (by omega)

theorem Rdr.allocs {w : World} {B g P : Nat} (h : Rdr w B g P) (o : Obj) : Rdr (w.alloc o) B g P := h.keep fun k hk => Below.heap_alloc w o k (by have := h.lt; omega)

def StPost (B g P : Nat) (w : World) (e : Ending) (w' : World) : Prop :=
  ∃ t k : Int, e = .returned (two t k) ∧ Rdr w' B g (P + 4) ∧ w.grownBy w' (some g)

def IntPost (B g P : Nat) (w : World) (e : Ending) (w' : World) : Prop :=
  ∃ t : Int, e = .returned (.int .i64 t) ∧ Rdr w' B g (P + 4) ∧ w.grownBy w' (some g)

set_option maxHeartbeats 2000000 in
theorem l91Stamp_any {B g P : Nat} (w : World) (h : Rdr w B g P) (hP : P ≤ 900000) :
    Calls Try.prog 32 #[.pointer (some ⟨g, 0, none⟩)] w (StPost B g P w) := by
  have hg := h.lt
  have r0 := hid (h.allocs (.cells #[.int .i64 0, .int .i64 0] 24))
  have g0 := hid (World.grownBy_alloc w (.cells #[.int .i64 0, .int .i64 0] 24) (some g))
  have a0 := hid (At2.new w 24 0 0)
  clear h
  go_enter Try.func32, Try.ntmps32
  go_wp2_with fail
  refine (pick_any 8 _ r0.out (by omega) (by omega) (by omega)).mono ?_
  rintro e w1 ⟨x1, rfl, hx1, hy1, r1, q1, s1⟩
  have a1 := hid (a0.out.grown q1 (by omega))
  have g1 := hid (grown_set g0.out q1)
  clear q1 s1 r0 g0 a0
  go_wp2_with fail
  refine (pick_any 5 _ r1 (by omega) (by omega) (by omega)).mono ?_
  rintro e w2 ⟨x2, rfl, hx2, hy2, r2, q2, s2⟩
  have a2 := hid (a1.out.grown q2 (by omega))
  have g2 := hid (grown_set g1.out q2)
  clear q2 s2 r1 g1 a1
  have r2' := hid (r2.allocs (.cells #[.int .i64 (1 + x1), .int .i64 x2] 24))
  have hz := a2.out.lt
  have hzg := g2.out.size
  have hgz2 := r2.lt
  have g2' := hid (grown_alloc g2.out (.cells #[.int .i64 (1 + x1), .int .i64 x2] 24))
  have a2' := hid (a2.out.alloc (.cells #[.int .i64 (1 + x1), .int .i64 x2] 24))
  have b2 := hid (At2.new w2 24 (1 + x1) x2)
  clear r2 a2 g2
  go_wp2_with fail
  refine (pick_any 24 _ r2'.out (by omega) (by omega) (by omega)).mono ?_
  rintro e w3 ⟨x3, rfl, hx3, hy3, r3, q3, s3⟩
  have a3 := hid (a2'.out.grown q3 (by omega))
  have b3 := hid (b2.out.grown q3 (by omega))
  have g3 := hid (grown_set g2'.out q3)
  clear q3 s3 r2' a2' g2' b2
  rcases (show x3 = 0 ∨ x3 = 1 ∨ 2 ≤ x3 by omega) with rfl | rfl | hx
  · have r3' := hid (r3.allocs (.cells #[.int .i64 0, .int .i64 (-1), .int .i64 999, .int .i64 1000] 3))
    have a3' := hid (a3.out.alloc (.cells #[.int .i64 0, .int .i64 (-1), .int .i64 999, .int .i64 1000] 3))
    have b3' := hid (b3.out.alloc (.cells #[.int .i64 0, .int .i64 (-1), .int .i64 999, .int .i64 1000] 3))
    have g3' := hid (grown_alloc g3.out (.cells #[.int .i64 0, .int .i64 (-1), .int .i64 999, .int .i64 1000] 3))
    have l3 : AtN (w3.alloc (.cells #[.int .i64 0, .int .i64 (-1), .int .i64 999, .int .i64 1000] 3)) w3.heap.size 3 [0, -1, 999, 1000] := heap_alloc_new w3 _
    have l3' := hid l3
    have hz3 := b3.out.lt
    have hgz := r3.lt
    clear a3 b3 g3 r3 l3
    go_wp2_with fail
    refine (pick_any 4 _ r3'.out (by omega) (by omega) (by omega)).mono ?_
    rintro e w4 ⟨x4, rfl, hx4, hy4, r4, q4, s4⟩
    have a4 := hid (a3'.out.grown q4 (by omega))
    have b4 := hid (b3'.out.grown q4 (by omega))
    have g4 := hid (grown_set g3'.out q4)
    have l4 := hid (l3'.out.grown q4 (by omega))
    obtain ⟨k, rfl⟩ := Int.eq_ofNat_of_zero_le hx4
    obtain ⟨z, hz⟩ := l4.out.cell (k := k) (by simp; omega)
    have hz4 : w3.heap.size < w4.heap.size := by rw [s4]; simp
    clear q4 s4 a3' b3' g3' l3' r3' l4
    have c0 := b4.out.c0
    have c1 := b4.out.c1
    have e0 := b4.out.f0
    have e1 := b4.out.f1
    have d0 := a4.out.f0
    have d1 := a4.out.f1
    have d2 := a4.out.c0
    have d3 := a4.out.c1
    have hnb : w.heap.size ≠ w2.heap.size := by omega
    have hd2 := hid ((a4.out.far (p := ⟨w2.heap.size, 0, none⟩) hnb (.int .i64 z)).c0)
    have hd3 := hid ((a4.out.far (p := ⟨w2.heap.size, 0, none⟩) hnb (.int .i64 z)).c1)
    go_wp2
    refine bodyPost_ret (v := two z x2) (by simp [results, Try.results32, go_sem, hd2.out, hd3.out]) rfl ⟨_, _, rfl, ?_, ?_⟩
    · exact ((r4.far (show g < w2.heap.size by omega) _).far hg _).far hg _
    · exact grown_far (grown_far (grown_far g4.out hzg _) (Nat.le_refl _) _) (Nat.le_refl _) _
  · have r3' := hid r3
    have hgz := r3.lt
    clear r3
    go_wp2_with fail
    refine (pick_any 7 _ r3'.out (by omega) (by omega) (by omega)).mono ?_
    rintro e w4 ⟨x4, rfl, hx4, hy4, r4, q4, s4⟩
    have a4 := hid (a3.out.grown q4 (by omega))
    have b4 := hid (b3.out.grown q4 (by omega))
    have g4 := hid (grown_set g3.out q4)
    clear q4 s4 a3 b3 g3
    have c0 := b4.out.c0
    have c1 := b4.out.c1
    have e0 := b4.out.f0
    have e1 := b4.out.f1
    have d0 := a4.out.f0
    have d1 := a4.out.f1
    have d2 := a4.out.c0
    have d3 := a4.out.c1
    have hnb : w.heap.size ≠ w2.heap.size := by omega
    have hd2 := hid ((a4.out.far (p := ⟨w2.heap.size, 1, none⟩) hnb (.int .i64 (x4 - 1))).c0)
    have hd3 := hid ((a4.out.far (p := ⟨w2.heap.size, 1, none⟩) hnb (.int .i64 (x4 - 1))).c1)
    go_wp2
    refine bodyPost_ret (v := two (1 + x1) (x4 - 1)) (by simp [results, Try.results32, go_sem, hd2.out, hd3.out]) rfl ⟨_, _, rfl, ?_, ?_⟩
    · exact ((r4.far (show g < w2.heap.size by omega) _).far hg _).far hg _
    · exact grown_far (grown_far (grown_far g4.out hzg _) (Nat.le_refl _) _) (Nat.le_refl _) _
  · have e0 : (x3 == 0) = false := by simp; omega
    have e1 : (x3 == 1) = false := by simp; omega
    have c0 := b3.out.c0
    have c1 := b3.out.c1
    have d0 := a3.out.f0
    have d1 := a3.out.f1
    have d2 := a3.out.c0
    have d3 := a3.out.c1
    go_wp2
    refine bodyPost_ret (v := two (1 + x1) x2) (by simp [results, Try.results32, go_sem, d2, d3]) rfl ⟨_, _, rfl, ?_, ?_⟩
    · exact ((r3.le (by omega)).far hg _).far hg _
    · exact grown_far (grown_far (g3.out) (Nat.le_refl _) _) (Nat.le_refl _) _

set_option maxHeartbeats 2000000 in
theorem l91Hybrid_any {B g P : Nat} (w : World) (h : Rdr w B g P) (hP : P ≤ 900000) :
    Calls Try.prog 43 #[.pointer (some ⟨g, 0, none⟩)] w (StPost B g P w) := by
  have hg := h.lt
  have r0 := hid (h.allocs (.cells #[.int .i64 0, .int .i64 0] 36))
  have g0 := hid (World.grownBy_alloc w (.cells #[.int .i64 0, .int .i64 0] 36) (some g))
  have a0 := hid (At2.new w 36 0 0)
  clear h
  go_enter Try.func43, Try.ntmps43
  go_wp2_with fail
  refine (pick_any 8 _ r0.out (by omega) (by omega) (by omega)).mono ?_
  rintro e w1 ⟨x1, rfl, hx1, hy1, r1, q1, s1⟩
  have a1 := hid (a0.out.grown q1 (by omega))
  have g1 := hid (grown_set g0.out q1)
  clear q1 s1 r0 g0 a0
  go_wp2_with fail
  refine (pick_any 5 _ r1 (by omega) (by omega) (by omega)).mono ?_
  rintro e w2 ⟨x2, rfl, hx2, hy2, r2, q2, s2⟩
  have a2 := hid (a1.out.grown q2 (by omega))
  have g2 := hid (grown_set g1.out q2)
  clear q2 s2 r1 g1 a1
  have r2' := hid (r2.allocs (.cells #[.int .i64 (x1), .int .i64 x2] 36))
  have hz := a2.out.lt
  have hzg := g2.out.size
  have hgz2 := r2.lt
  have g2' := hid (grown_alloc g2.out (.cells #[.int .i64 (x1), .int .i64 x2] 36))
  have a2' := hid (a2.out.alloc (.cells #[.int .i64 (x1), .int .i64 x2] 36))
  have b2 := hid (At2.new w2 36 (x1) x2)
  clear r2 a2 g2
  go_wp2_with fail
  refine (pick_any 20 _ r2'.out (by omega) (by omega) (by omega)).mono ?_
  rintro e w3 ⟨x3, rfl, hx3, hy3, r3, q3, s3⟩
  have a3 := hid (a2'.out.grown q3 (by omega))
  have b3 := hid (b2.out.grown q3 (by omega))
  have g3 := hid (grown_set g2'.out q3)
  clear q3 s3 r2' a2' g2' b2
  rcases (show x3 = 0 ∨ x3 = 1 ∨ 2 ≤ x3 by omega) with rfl | rfl | hx
  · have r3' := hid (r3.allocs (.cells #[.int .i64 (-1), .int .i64 999, .int .i64 1000] 3))
    have a3' := hid (a3.out.alloc (.cells #[.int .i64 (-1), .int .i64 999, .int .i64 1000] 3))
    have b3' := hid (b3.out.alloc (.cells #[.int .i64 (-1), .int .i64 999, .int .i64 1000] 3))
    have g3' := hid (grown_alloc g3.out (.cells #[.int .i64 (-1), .int .i64 999, .int .i64 1000] 3))
    have l3 : AtN (w3.alloc (.cells #[.int .i64 (-1), .int .i64 999, .int .i64 1000] 3)) w3.heap.size 3 [-1, 999, 1000] := heap_alloc_new w3 _
    have l3' := hid l3
    have hz3 := b3.out.lt
    have hgz := r3.lt
    clear a3 b3 g3 r3 l3
    go_wp2_with fail
    refine (pick_any 3 _ r3'.out (by omega) (by omega) (by omega)).mono ?_
    rintro e w4 ⟨x4, rfl, hx4, hy4, r4, q4, s4⟩
    have a4 := hid (a3'.out.grown q4 (by omega))
    have b4 := hid (b3'.out.grown q4 (by omega))
    have g4 := hid (grown_set g3'.out q4)
    have l4 := hid (l3'.out.grown q4 (by omega))
    obtain ⟨k, rfl⟩ := Int.eq_ofNat_of_zero_le hx4
    obtain ⟨z, hz⟩ := l4.out.cell (k := k) (by simp; omega)
    have hz4 : w3.heap.size < w4.heap.size := by rw [s4]; simp
    clear q4 s4 a3' b3' g3' l3' r3' l4
    have c0 := b4.out.c0
    have c1 := b4.out.c1
    have e0 := b4.out.f0
    have e1 := b4.out.f1
    have d0 := a4.out.f0
    have d1 := a4.out.f1
    have d2 := a4.out.c0
    have d3 := a4.out.c1
    have hnb : w.heap.size ≠ w2.heap.size := by omega
    have hd2 := hid ((a4.out.far (p := ⟨w2.heap.size, 0, none⟩) hnb (.int .i64 z)).c0)
    have hd3 := hid ((a4.out.far (p := ⟨w2.heap.size, 0, none⟩) hnb (.int .i64 z)).c1)
    go_wp2
    refine bodyPost_ret (v := two z x2) (by simp [results, Try.results43, go_sem, hd2.out, hd3.out]) rfl ⟨_, _, rfl, ?_, ?_⟩
    · exact ((r4.far (show g < w2.heap.size by omega) _).far hg _).far hg _
    · exact grown_far (grown_far (grown_far g4.out hzg _) (Nat.le_refl _) _) (Nat.le_refl _) _
  · have r3' := hid (r3.allocs (.cells #[.int .i64 (-1), .int .i64 99, .int .i64 100] 3))
    have a3' := hid (a3.out.alloc (.cells #[.int .i64 (-1), .int .i64 99, .int .i64 100] 3))
    have b3' := hid (b3.out.alloc (.cells #[.int .i64 (-1), .int .i64 99, .int .i64 100] 3))
    have g3' := hid (grown_alloc g3.out (.cells #[.int .i64 (-1), .int .i64 99, .int .i64 100] 3))
    have l3 : AtN (w3.alloc (.cells #[.int .i64 (-1), .int .i64 99, .int .i64 100] 3)) w3.heap.size 3 [-1, 99, 100] := heap_alloc_new w3 _
    have l3' := hid l3
    have hz3 := b3.out.lt
    have hgz := r3.lt
    clear a3 b3 g3 r3 l3
    go_wp2_with fail
    refine (pick_any 3 _ r3'.out (by omega) (by omega) (by omega)).mono ?_
    rintro e w4 ⟨x4, rfl, hx4, hy4, r4, q4, s4⟩
    have a4 := hid (a3'.out.grown q4 (by omega))
    have b4 := hid (b3'.out.grown q4 (by omega))
    have g4 := hid (grown_set g3'.out q4)
    have l4 := hid (l3'.out.grown q4 (by omega))
    obtain ⟨k, rfl⟩ := Int.eq_ofNat_of_zero_le hx4
    obtain ⟨z, hz⟩ := l4.out.cell (k := k) (by simp; omega)
    have hz4 : w3.heap.size < w4.heap.size := by rw [s4]; simp
    clear q4 s4 a3' b3' g3' l3' r3' l4
    have c0 := b4.out.c0
    have c1 := b4.out.c1
    have e0 := b4.out.f0
    have e1 := b4.out.f1
    have d0 := a4.out.f0
    have d1 := a4.out.f1
    have d2 := a4.out.c0
    have d3 := a4.out.c1
    have hnb : w.heap.size ≠ w2.heap.size := by omega
    have hd2 := hid ((a4.out.far (p := ⟨w2.heap.size, 1, none⟩) hnb (.int .i64 z)).c0)
    have hd3 := hid ((a4.out.far (p := ⟨w2.heap.size, 1, none⟩) hnb (.int .i64 z)).c1)
    go_wp2
    refine bodyPost_ret (v := two (x1) z) (by simp [results, Try.results43, go_sem, hd2.out, hd3.out]) rfl ⟨_, _, rfl, ?_, ?_⟩
    · exact ((r4.far (show g < w2.heap.size by omega) _).far hg _).far hg _
    · exact grown_far (grown_far (grown_far g4.out hzg _) (Nat.le_refl _) _) (Nat.le_refl _) _
  · have e0 : (x3 == 0) = false := by simp; omega
    have e1 : (x3 == 1) = false := by simp; omega
    have c0 := b3.out.c0
    have c1 := b3.out.c1
    have d0 := a3.out.f0
    have d1 := a3.out.f1
    have d2 := a3.out.c0
    have d3 := a3.out.c1
    go_wp2
    refine bodyPost_ret (v := two (x1) x2) (by simp [results, Try.results43, go_sem, d2, d3]) rfl ⟨_, _, rfl, ?_, ?_⟩
    · exact ((r3.le (by omega)).far hg _).far hg _
    · exact grown_far (grown_far (g3.out) (Nat.le_refl _) _) (Nat.le_refl _) _

set_option maxHeartbeats 1000000 in
theorem l91Wall_any {B g P : Nat} (w : World) (h : Rdr w B g P) (hP : P ≤ 900000) :
    Calls Try.prog 44 #[.pointer (some ⟨g, 0, none⟩)] w (IntPost B g P w) := by
  have hg := h.lt
  go_enter Try.func44, Try.ntmps44
  go_wp2_with fail
  refine (pick_any 20 _ h (by omega) (by omega) (by omega)).mono ?_
  rintro e w1 ⟨x1, rfl, hx1, hy1, r1, q1, s1⟩
  have q1' := hid q1
  clear q1 s1 h
  by_cases hx : x1 = 0
  · subst hx
    have r1' := hid (r1.allocs (.cells #[.int .i64 (-1), .int .i64 999, .int .i64 1000] 3))
    have l1 : AtN (w1.alloc (.cells #[.int .i64 (-1), .int .i64 999, .int .i64 1000] 3)) w1.heap.size 3 [-1, 999, 1000] := heap_alloc_new w1 _
    have l1' := hid l1
    have g1 := hid (grown_alloc q1'.out (.cells #[.int .i64 (-1), .int .i64 999, .int .i64 1000] 3))
    have hgz := r1.lt
    clear l1 r1 q1'
    go_wp2_with fail
    refine (pick_any 3 _ r1'.out (by omega) (by omega) (by omega)).mono ?_
    rintro e w2 ⟨x2, rfl, hx2, hy2, r2, q2, s2⟩
    have l2 := hid (l1'.out.grown q2 (by omega))
    have g2 := hid (grown_set g1.out q2)
    obtain ⟨k, rfl⟩ := Int.eq_ofNat_of_zero_le hx2
    obtain ⟨z, hz⟩ := l2.out.cell (k := k) (by simp; omega)
    clear q2 s2 r1' l1' g1 l2
    go_wp2
    go_ret
    exact ⟨_, rfl, r2.le (by omega), g2.out⟩
  · have e0 : (x1 == 0) = false := by rw [beq_eq_false_iff_ne]; exact hx
    clear hx
    go_wp2_with fail
    refine (pick_any 9 _ r1 (by omega) (by omega) (by omega)).mono ?_
    rintro e w2 ⟨x2, rfl, hx2, hy2, r2, q2, s2⟩
    have g2 := hid (grown_set q1'.out q2)
    clear q2 s2
    go_wp2
    go_ret
    exact ⟨_, rfl, r2.le (by omega), g2.out⟩
end Go.Proofs.Ytmnkamonkmoapaa
