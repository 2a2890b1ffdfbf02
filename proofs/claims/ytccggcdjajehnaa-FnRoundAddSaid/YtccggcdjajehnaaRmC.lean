/-
  Contracts of the program's rounds: missing, adding, got, round. Masks are below 32. No condition.
-/
import Derived.Test.YtccggcdjajehnaaRmB
import Derived.Test.YtccggcdjajehnaaImplA
import Derived.Deep.CutBlock
import Derived.Deep.RegionLaw
import Derived.Deep.RegionHeld3
import Derived.Deep.DeepCutAuto
namespace Go.Proofs.Ytccggcdjajehnaa
open Go.RowKit
set_option linter.unusedVariables false
set_option linter.unusedSimpArgs false

set_option maxHeartbeats 1000000 in
theorem missing_any {a d : Nat} (m : Int) (T : Nat → St) (ha : a < 32) (hd : d < 32) (w : World) :
    Calls Try.prog 39 #[grV a m d T] w fun e w' => e = .returned (.int .u64 (misM a d : Nat)) ∧ Below w.heap.size w w' := by
  have hB := hid (below1 w (.cells (grC a m d T) 57))
  go_enter Try.func39, Try.ntmps39
  go_wp2
  go_ret
  exact ⟨ret_int (u64_andNot_nat _ _ (by omega) (by omega)), hB.out⟩

abbrev T0 : Nat → St := fun _ => (0, 0)
/-- the zero round's cells, written out -/
abbrev grZ : Array Value := #[.int .u64 0, .int .i64 0, .int .u64 0, .int .i64 0, .int .i64 0, .int .i64 0, .int .i64 0, .int .i64 0, .int .i64 0, .int .i64 0, .int .i64 0, .int .i64 0, .int .i64 0]

theorem grZ_eq : grZ = grC 0 0 0 T0 := rfl

set_option maxHeartbeats 4000000 in
theorem adding_any {a d : Nat} (m : Int) (T : Nat → St) {t g : Int} (hd : d < 32) (hg : grB g = true) (w : World) :
    Calls Try.prog 46 #[grV a m d T, two t g] w fun e w' => e = .returned (grV a m (d ||| 2 ^ g.toNat) (upT T g.toNat (t, g))) ∧ Below w.heap.size w w' := by
  obtain ⟨h0, h4⟩ := grB_true.1 hg
  obtain ⟨k, rfl⟩ := Int.eq_ofNat_of_zero_le h0
  rw [Int.toNat_natCast]
  have hk : k < 5 := by omega
  have hg' := hid hg
  have hwi := hid (with_any d (k : Int) hd hg)
  rw [Int.toNat_natCast] at hwi
  obtain ⟨W0, hW0⟩ : ∃ W0, (((w.alloc (.cells (grC a m d T) 57)).alloc (.cells #[.int .i64 t, .int .i64 (k : Int)] 33)).alloc (.cells grZ 57)) = W0 := ⟨_, rfl⟩
  have hB0 := hid (show Below w.heap.size w W0 by rw [← hW0]; exact below3 w _ _ _)
  have hK0 := hid (show At13 W0 w.heap.size a m d T by rw [← hW0]; exact ((Cs.new w _ _).alloc _).alloc _)
  have hS0 := hid (show Cs W0 (w.heap.size + 1) 33 #[.int .i64 t, .int .i64 (k : Int)] by rw [← hW0]; exact (Cs.new' _ _ _ (by simp)).alloc _)
  have hZ0 := hid (show Cs W0 (w.heap.size + 1 + 1) 57 grZ by rw [← hW0]; exact Cs.new' _ _ _ (by simp))
  replace hW0 := hid hW0
  clear hg h0
  go_enter Try.func46, Try.ntmps46
  go_upto_region 1 with (fail)
  rw [hW0.out]
  obtain ⟨k0, k1, k2⟩ := hK0.out.head
  obtain ⟨s0, s1, -, -⟩ := hS0.out.two
  have f2 := hK0.out.free 2
  go_upto_region 2 with (go_at_call 61; (with_reducible refine (hwi.out _).mono ?_); rintro e w' ⟨rfl, rfl⟩)
  obtain ⟨W1, hW1⟩ : ∃ W1, W0.setCell ⟨w.heap.size, 2, none⟩ (.int .u64 ((d ||| 2 ^ k : Nat) : Int)) = W1 := ⟨_, rfl⟩
  rw [hW1]
  have hB1 := hid (show Below w.heap.size w W1 by rw [← hW1]; exact hB0.out.setCell (Nat.le_refl _) _)
  have hK1 := hid (show At13 W1 w.heap.size a m (d ||| 2 ^ k) T by rw [← hW1]; exact hK0.out.setD _)
  have hS1 := hid (show Cs W1 (w.heap.size + 1) 33 #[.int .i64 t, .int .i64 (k : Int)] by rw [← hW1]; exact hS0.out.far (by simp) _)
  have hZ1 := hid (show Cs W1 (w.heap.size + 1 + 1) 57 grZ by rw [← hW1]; exact hZ0.out.far (by simp; omega) _)
  clear hW1 k0 k1 k2 s0 s1 f2 hK0 hS0 hZ0 hB0 hwi
  obtain ⟨s0, s1, -, -⟩ := hS1.out.two
  obtain ⟨p0, p1⟩ := hK1.out.slot hk
  have f0 := hK1.out.free (3 + k * 2)
  have f1 := hK1.out.free (3 + k * 2 + 1)
  have i0 : (0 : Int) ≤ (k : Int) := by omega
  have i1 : (k : Int) < 5 := by omega
  go_upto_region 3 with (fail)
  obtain ⟨W2, hW2⟩ : ∃ W2, (W1.setCell ⟨w.heap.size, 3 + k * 2, none⟩ (.int .i64 t)).setCell ⟨w.heap.size, 3 + k * 2 + 1, none⟩ (.int .i64 (k : Int)) = W2 := ⟨_, rfl⟩
  rw [hW2]
  have hB2 := hid (show Below w.heap.size w W2 by rw [← hW2]; exact (hB1.out.setCell (Nat.le_refl _) _).setCell (Nat.le_refl _) _)
  have hK2 := hid (show At13 W2 w.heap.size a m (d ||| 2 ^ k) (upT T k (t, (k : Int))) by rw [← hW2]; exact hK1.out.setS hk t k)
  have hZ2 := hid (show Cs W2 (w.heap.size + 1 + 1) 57 grZ by rw [← hW2]; exact (hZ1.out.far (by simp; omega) _).far (by simp; omega) _)
  clear hW2 s0 s1 p0 p1 f0 f1 hK1 hS1 hZ1 hB1
  obtain ⟨c0, c1, c2, c3, c4, c5, c6, c7, c8, c9, c10, c11, c12⟩ := hK2.out.all
  have z0 : W2.cell? ⟨w.heap.size + 1 + 1, 0, none⟩ = some (.int .u64 0) := hZ2.out.cell 0
  have z1 : W2.cell? ⟨w.heap.size + 1 + 1, 1, none⟩ = some (.int .i64 0) := hZ2.out.cell 1
  have z2 : W2.cell? ⟨w.heap.size + 1 + 1, 2, none⟩ = some (.int .u64 0) := hZ2.out.cell 2
  have z3 : W2.cell? ⟨w.heap.size + 1 + 1, 3, none⟩ = some (.int .i64 0) := hZ2.out.cell 3
  have z4 : W2.cell? ⟨w.heap.size + 1 + 1, 4, none⟩ = some (.int .i64 0) := hZ2.out.cell 4
  have z5 : W2.cell? ⟨w.heap.size + 1 + 1, 5, none⟩ = some (.int .i64 0) := hZ2.out.cell 5
  have z6 : W2.cell? ⟨w.heap.size + 1 + 1, 6, none⟩ = some (.int .i64 0) := hZ2.out.cell 6
  have z7 : W2.cell? ⟨w.heap.size + 1 + 1, 7, none⟩ = some (.int .i64 0) := hZ2.out.cell 7
  have z8 : W2.cell? ⟨w.heap.size + 1 + 1, 8, none⟩ = some (.int .i64 0) := hZ2.out.cell 8
  have z9 : W2.cell? ⟨w.heap.size + 1 + 1, 9, none⟩ = some (.int .i64 0) := hZ2.out.cell 9
  have z10 : W2.cell? ⟨w.heap.size + 1 + 1, 10, none⟩ = some (.int .i64 0) := hZ2.out.cell 10
  have z11 : W2.cell? ⟨w.heap.size + 1 + 1, 11, none⟩ = some (.int .i64 0) := hZ2.out.cell 11
  have z12 : W2.cell? ⟨w.heap.size + 1 + 1, 12, none⟩ = some (.int .i64 0) := hZ2.out.cell 12
  have f0 := hZ2.out.frozen 0
  have f1 := hZ2.out.frozen 1
  have f2 := hZ2.out.frozen 2
  have f3 := hZ2.out.frozen 3
  have f4 := hZ2.out.frozen 4
  have f5 := hZ2.out.frozen 5
  have f6 := hZ2.out.frozen 6
  have f7 := hZ2.out.frozen 7
  have f8 := hZ2.out.frozen 8
  have f9 := hZ2.out.frozen 9
  have f10 := hZ2.out.frozen 10
  have f11 := hZ2.out.frozen 11
  have f12 := hZ2.out.frozen 12
  obtain ⟨WF, hWF, hKF, hBF, -⟩ := fin13 hZ2.out rfl hB2.out (by omega : w.heap.size ≤ w.heap.size + 1 + 1) a m (d ||| 2 ^ k) (upT T k (t, (k : Int)))
  replace hWF := hid hWF
  replace hKF := hid hKF
  replace hBF := hid hBF
  go_wp2
  rw [hWF.out]
  clear hWF z0 z1 z2 z3 z4 z5 z6 z7 z8 z9 z10 z11 z12 c0 c1 c2 c3 c4 c5 c6 c7 c8 c9 c10 c11 c12 f0 f1 f2 f3 f4 f5 f6 f7 f8 f9 f10 f11 f12
  obtain ⟨Y0, Y1, Y2, Y3, Y4, Y5, Y6, Y7, Y8, Y9, Y10, Y11, Y12⟩ := At13.all hKF.out
  refine bodyPost_ret (v := grV a m (d ||| 2 ^ k) (upT T k (t, (k : Int)))) (by simp [results, Try.results46, go_sem, Y0, Y1, Y2, Y3, Y4, Y5, Y6, Y7, Y8, Y9, Y10, Y11, Y12]) rfl ⟨rfl, hBF.out⟩
end Go.Proofs.Ytccggcdjajehnaa
