/-
  The walks of the exact laws of StampLess and HybridLess. No condition.
-/
import Derived.Test.YtmbmdhojefdihaaSxA
import Derived.Test.YtmbmdhojefdihaaAt2
import Derived.Deep.RegionHeld3
namespace Go.Proofs.Ytmbmdhojefdihaa
open Go.RowKit

theorem At2.four {w : World} {b c : Nat} {T U : TypeId} {x y z u : Int} (h : At2 w b T x y) (k : At2 w c U z u) :
    w.cell? ⟨b, 0, none⟩ = some (.int .i64 x) ∧ w.cell? ⟨b, 1, none⟩ = some (.int .i64 y) ∧ w.cell? ⟨c, 0, none⟩ = some (.int .i64 z) ∧ w.cell? ⟨c, 1, none⟩ = some (.int .i64 u) := ⟨h.c0, h.c1, k.c0, k.c1⟩

set_option maxHeartbeats 4000000 in
theorem exStampLess (a b c d : Int) (w : World) :
    Calls Try.prog 4 #[two a b, two c d] w fun e w' => e = .returned (.bool true) ∧ Below w.heap.size w w' := by
  obtain ⟨X, hX⟩ : ∃ X, ((w.alloc (.cells #[.int .i64 a, .int .i64 b] 23)).alloc (.cells #[.int .i64 c, .int .i64 d] 23)).drew = X := ⟨_, rfl⟩
  have p0 : Hid (At2 X w.heap.size 23 a b) := hid (by rw [← hX]; exact ((At2.new w 23 a b).alloc _).drew)
  have q0 : Hid (At2 X (w.heap.size + 1) 23 c d) := hid (by rw [← hX]; have := At2.new (w.alloc (.cells #[.int .i64 a, .int .i64 b] 23)) 23 c d; simpa using this.drew)
  have B0 : Hid (Below w.heap.size w X) := hid (by rw [← hX]; exact (below2 w _ _).drew)
  have hl0 := p0.out.lt
  have hm0 := q0.out.lt
  have hn0 := Nat.le_of_lt hl0
  replace hX := hid hX
  go_enter Try.func4, Try.ntmps4
  go_wp2_with fail
  go_region_held3 (fun w' => w'.cell? ⟨w.heap.size, 0, none⟩ = some (.int .i64 a) ∧ w'.cell? ⟨w.heap.size, 1, none⟩ = some (.int .i64 b) ∧ w'.cell? ⟨w.heap.size + 1, 0, none⟩ = some (.int .i64 c) ∧ w'.cell? ⟨w.heap.size + 1, 1, none⟩ = some (.int .i64 d))
    (first | (rw [hX.out]; with_reducible exact p0.out.four q0.out) | with_reducible exact p1.out.four q1.out | with_reducible exact p2.out.four q2.out | with_reducible exact p3.out.four q3.out)
    (first
      | ((try rw [hX.out]); (go_at_call 11; (with_reducible refine (toStamp_any _ _ _).mono ?_); rintro e X1 ⟨rfl, hb1⟩; have p1 := hid (p0.out.below hb1 hl0); have q1 := hid (q0.out.below hb1 hm0); have B1 := hid (B0.out.trans (hb1.mono hn0)); have hl1 := Nat.lt_of_lt_of_le hl0 hb1.size; have hm1 := Nat.lt_of_lt_of_le hm0 hb1.size; have hn1 := Nat.le_trans hn0 hb1.size))
      | (go_at_call 11; (with_reducible refine (toStamp_any _ _ _).mono ?_); rintro e X2 ⟨rfl, hb2⟩; have p2 := hid (p1.out.below hb2 hl1); have q2 := hid (q1.out.below hb2 hm1); have B2 := hid (B1.out.trans (hb2.mono hn1)); have hl2 := Nat.lt_of_lt_of_le hl1 hb2.size; have hm2 := Nat.lt_of_lt_of_le hm1 hb2.size; have hn2 := Nat.le_trans hn1 hb2.size)
      | (go_at_call 13; (with_reducible refine (StampLess_spec _ _ _ _ _).mono ?_); rintro e X3 ⟨rfl, hb3⟩; have p3 := hid (p2.out.below hb3 hl2); have q3 := hid (q2.out.below hb3 hm2); have B3 := hid (B2.out.trans (hb3.mono hn2)); have hl3 := Nat.lt_of_lt_of_le hl2 hb3.size; have hm3 := Nat.lt_of_lt_of_le hm2 hb3.size; have hn3 := Nat.le_trans hn2 hb3.size))
  have r3 : Hid (At2 X3.drew w.heap.size 23 a b) := hid p3.out.drew
  have s3 : Hid (At2 X3.drew (w.heap.size + 1) 23 c d) := hid q3.out.drew
  have C3 : Hid (Below w.heap.size w X3.drew) := hid B3.out.drew
  have ml3 : w.heap.size < X3.drew.heap.size := hl3
  have mm3 : w.heap.size + 1 < X3.drew.heap.size := hm3
  have mn3 : w.heap.size ≤ X3.drew.heap.size := hn3
  clear p3 q3 B3 hl3 hm3 hn3
  have p3 := r3
  have q3 := s3
  have B3 := C3
  have hl3 := ml3
  have hm3 := mm3
  have hn3 := mn3
  have hne : (stL a b c d != stL a b c d) = false := by simp
  go_wp2_with fail
  go_region_held3 (fun w' => w'.cell? ⟨w.heap.size, 0, none⟩ = some (.int .i64 a) ∧ w'.cell? ⟨w.heap.size, 1, none⟩ = some (.int .i64 b) ∧ w'.cell? ⟨w.heap.size + 1, 0, none⟩ = some (.int .i64 c) ∧ w'.cell? ⟨w.heap.size + 1, 1, none⟩ = some (.int .i64 d))
    (first | with_reducible exact p3.out.four q3.out | with_reducible exact p4.out.four q4.out | with_reducible exact p5.out.four q5.out | with_reducible exact p6.out.four q6.out)
    (first
      | (go_at_call 11; (with_reducible refine (toStamp_any _ _ _).mono ?_); rintro e X4 ⟨rfl, hb4⟩; have p4 := hid (p3.out.below hb4 hl3); have q4 := hid (q3.out.below hb4 hm3); have B4 := hid (B3.out.trans (hb4.mono hn3)); have hl4 := Nat.lt_of_lt_of_le hl3 hb4.size; have hm4 := Nat.lt_of_lt_of_le hm3 hb4.size; have hn4 := Nat.le_trans hn3 hb4.size)
      | (go_at_call 11; (with_reducible refine (toStamp_any _ _ _).mono ?_); rintro e X5 ⟨rfl, hb5⟩; have p5 := hid (p4.out.below hb5 hl4); have q5 := hid (q4.out.below hb5 hm4); have B5 := hid (B4.out.trans (hb5.mono hn4)); have hl5 := Nat.lt_of_lt_of_le hl4 hb5.size; have hm5 := Nat.lt_of_lt_of_le hm4 hb5.size; have hn5 := Nat.le_trans hn4 hb5.size)
      | (go_at_call 14; (with_reducible refine (StampLess_impl _ _ _ _ _).mono ?_); rintro e X6 ⟨rfl, hb6⟩; have p6 := hid (p5.out.below hb6 hl5); have q6 := hid (q5.out.below hb6 hm5); have B6 := hid (B5.out.trans (hb6.mono hn5)); have hl6 := Nat.lt_of_lt_of_le hl5 hb6.size; have hm6 := Nat.lt_of_lt_of_le hm5 hb6.size; have hn6 := Nat.le_trans hn5 hb6.size))
  go_wp2
  go_ret
  exact ⟨rfl, B6.out⟩

set_option maxHeartbeats 4000000 in
theorem exHybridLess (a b c d : Int) (w : World) :
    Calls Try.prog 7 #[two a b, two c d] w fun e w' => e = .returned (.bool true) ∧ Below w.heap.size w w' := by
  obtain ⟨X, hX⟩ : ∃ X, ((w.alloc (.cells #[.int .i64 a, .int .i64 b] 39)).alloc (.cells #[.int .i64 c, .int .i64 d] 39)).drew = X := ⟨_, rfl⟩
  have p0 : Hid (At2 X w.heap.size 39 a b) := hid (by rw [← hX]; exact ((At2.new w 39 a b).alloc _).drew)
  have q0 : Hid (At2 X (w.heap.size + 1) 39 c d) := hid (by rw [← hX]; have := At2.new (w.alloc (.cells #[.int .i64 a, .int .i64 b] 39)) 39 c d; simpa using this.drew)
  have B0 : Hid (Below w.heap.size w X) := hid (by rw [← hX]; exact (below2 w _ _).drew)
  have hl0 := p0.out.lt
  have hm0 := q0.out.lt
  have hn0 := Nat.le_of_lt hl0
  replace hX := hid hX
  go_enter Try.func7, Try.ntmps7
  go_wp2_with fail
  go_region_held3 (fun w' => w'.cell? ⟨w.heap.size, 0, none⟩ = some (.int .i64 a) ∧ w'.cell? ⟨w.heap.size, 1, none⟩ = some (.int .i64 b) ∧ w'.cell? ⟨w.heap.size + 1, 0, none⟩ = some (.int .i64 c) ∧ w'.cell? ⟨w.heap.size + 1, 1, none⟩ = some (.int .i64 d))
    (first | (rw [hX.out]; with_reducible exact p0.out.four q0.out) | with_reducible exact p1.out.four q1.out | with_reducible exact p2.out.four q2.out | with_reducible exact p3.out.four q3.out)
    (first
      | ((try rw [hX.out]); (go_at_call 22; (with_reducible refine (toHybrid_any _ _ _).mono ?_); rintro e X1 ⟨rfl, hb1⟩; have p1 := hid (p0.out.below hb1 hl0); have q1 := hid (q0.out.below hb1 hm0); have B1 := hid (B0.out.trans (hb1.mono hn0)); have hl1 := Nat.lt_of_lt_of_le hl0 hb1.size; have hm1 := Nat.lt_of_lt_of_le hm0 hb1.size; have hn1 := Nat.le_trans hn0 hb1.size))
      | (go_at_call 22; (with_reducible refine (toHybrid_any _ _ _).mono ?_); rintro e X2 ⟨rfl, hb2⟩; have p2 := hid (p1.out.below hb2 hl1); have q2 := hid (q1.out.below hb2 hm1); have B2 := hid (B1.out.trans (hb2.mono hn1)); have hl2 := Nat.lt_of_lt_of_le hl1 hb2.size; have hm2 := Nat.lt_of_lt_of_le hm1 hb2.size; have hn2 := Nat.le_trans hn1 hb2.size)
      | (go_at_call 24; (with_reducible refine (HybridLess_spec _ _ _ _ _).mono ?_); rintro e X3 ⟨rfl, hb3⟩; have p3 := hid (p2.out.below hb3 hl2); have q3 := hid (q2.out.below hb3 hm2); have B3 := hid (B2.out.trans (hb3.mono hn2)); have hl3 := Nat.lt_of_lt_of_le hl2 hb3.size; have hm3 := Nat.lt_of_lt_of_le hm2 hb3.size; have hn3 := Nat.le_trans hn2 hb3.size))
  have r3 : Hid (At2 X3.drew w.heap.size 39 a b) := hid p3.out.drew
  have s3 : Hid (At2 X3.drew (w.heap.size + 1) 39 c d) := hid q3.out.drew
  have C3 : Hid (Below w.heap.size w X3.drew) := hid B3.out.drew
  have ml3 : w.heap.size < X3.drew.heap.size := hl3
  have mm3 : w.heap.size + 1 < X3.drew.heap.size := hm3
  have mn3 : w.heap.size ≤ X3.drew.heap.size := hn3
  clear p3 q3 B3 hl3 hm3 hn3
  have p3 := r3
  have q3 := s3
  have B3 := C3
  have hl3 := ml3
  have hm3 := mm3
  have hn3 := mn3
  have hne : (hyL a b c d != hyL a b c d) = false := by simp
  go_wp2_with fail
  go_region_held3 (fun w' => w'.cell? ⟨w.heap.size, 0, none⟩ = some (.int .i64 a) ∧ w'.cell? ⟨w.heap.size, 1, none⟩ = some (.int .i64 b) ∧ w'.cell? ⟨w.heap.size + 1, 0, none⟩ = some (.int .i64 c) ∧ w'.cell? ⟨w.heap.size + 1, 1, none⟩ = some (.int .i64 d))
    (first | with_reducible exact p3.out.four q3.out | with_reducible exact p4.out.four q4.out | with_reducible exact p5.out.four q5.out | with_reducible exact p6.out.four q6.out)
    (first
      | (go_at_call 22; (with_reducible refine (toHybrid_any _ _ _).mono ?_); rintro e X4 ⟨rfl, hb4⟩; have p4 := hid (p3.out.below hb4 hl3); have q4 := hid (q3.out.below hb4 hm3); have B4 := hid (B3.out.trans (hb4.mono hn3)); have hl4 := Nat.lt_of_lt_of_le hl3 hb4.size; have hm4 := Nat.lt_of_lt_of_le hm3 hb4.size; have hn4 := Nat.le_trans hn3 hb4.size)
      | (go_at_call 22; (with_reducible refine (toHybrid_any _ _ _).mono ?_); rintro e X5 ⟨rfl, hb5⟩; have p5 := hid (p4.out.below hb5 hl4); have q5 := hid (q4.out.below hb5 hm4); have B5 := hid (B4.out.trans (hb5.mono hn4)); have hl5 := Nat.lt_of_lt_of_le hl4 hb5.size; have hm5 := Nat.lt_of_lt_of_le hm4 hb5.size; have hn5 := Nat.le_trans hn4 hb5.size)
      | (go_at_call 25; (with_reducible refine (HybridLess_impl _ _ _ _ _).mono ?_); rintro e X6 ⟨rfl, hb6⟩; have p6 := hid (p5.out.below hb6 hl5); have q6 := hid (q5.out.below hb6 hm5); have B6 := hid (B5.out.trans (hb6.mono hn5)); have hl6 := Nat.lt_of_lt_of_le hl5 hb6.size; have hm6 := Nat.lt_of_lt_of_le hm5 hb6.size; have hn6 := Nat.le_trans hn5 hb6.size))
  go_wp2
  go_ret
  exact ⟨rfl, B6.out⟩
end Go.Proofs.Ytmbmdhojefdihaa
