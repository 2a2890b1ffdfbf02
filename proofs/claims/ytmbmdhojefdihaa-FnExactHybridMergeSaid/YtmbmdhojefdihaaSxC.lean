/-
  The walk of the exact law of HybridMerge. No condition.
-/
import Derived.Test.YtmbmdhojefdihaaSxB
import Derived.Deep.DeepCutAuto
namespace Go.Proofs.Ytmbmdhojefdihaa
open Go.RowKit

/-- the two arguments in their boxes, and all that was there as it was -/
def Two (w X : World) (T : TypeId) (a b c d : Int) : Prop := At2 X w.heap.size T a b ∧ At2 X (w.heap.size + 1) T c d ∧ Below w.heap.size w X
section
variable {w X Y : World} {T : TypeId} {a b c d : Int}

theorem Two.below (h : Two w X T a b c d) (hb : Below X.heap.size X Y) : Two w Y T a b c d := ⟨h.1.below hb h.1.lt, h.2.1.below hb h.2.1.lt, h.2.2.trans (hb.mono h.2.2.size)⟩

theorem Two.alloc (h : Two w X T a b c d) (o : Obj) : Two w (X.alloc o) T a b c d := ⟨h.1.alloc o, h.2.1.alloc o, h.2.2.alloc h.2.2.size o⟩

theorem Two.drew (h : Two w X T a b c d) : Two w X.drew T a b c d := ⟨h.1.drew, h.2.1.drew, h.2.2.drew⟩

theorem Two.lt1 (h : Two w X T a b c d) : w.heap.size + 1 < X.heap.size := h.2.1.lt

theorem Two.far (h : Two w X T a b c d) {p : Addr} (hp : w.heap.size + 1 < p.block) (u : Value) : Two w (X.setCell p u) T a b c d :=
  ⟨h.1.far (by omega) u, h.2.1.far (by omega) u, h.2.2.setCell (by omega) u⟩

theorem Two.four (h : Two w X T a b c d) :
    X.cell? ⟨w.heap.size, 0, none⟩ = some (.int .i64 a) ∧ X.cell? ⟨w.heap.size, 1, none⟩ = some (.int .i64 b) ∧ X.cell? ⟨w.heap.size + 1, 0, none⟩ = some (.int .i64 c) ∧ X.cell? ⟨w.heap.size + 1, 1, none⟩ = some (.int .i64 d) := h.1.four h.2.1
end
/-- the same, and the first result -/
def Three (w X : World) (T : TypeId) (a b c d : Int) (B : Nat) (W C : Int) : Prop := Two w X T a b c d ∧ At2 X B 41 W C
section
variable {w X Y : World} {T : TypeId} {a b c d W C : Int} {B : Nat}

theorem Three.below (h : Three w X T a b c d B W C) (hb : Below X.heap.size X Y) : Three w Y T a b c d B W C := ⟨h.1.below hb, h.2.below hb h.2.lt⟩

theorem Three.alloc (h : Three w X T a b c d B W C) (o : Obj) : Three w (X.alloc o) T a b c d B W C := ⟨h.1.alloc o, h.2.alloc o⟩

theorem Three.drew (h : Three w X T a b c d B W C) : Three w X.drew T a b c d B W C := ⟨h.1.drew, h.2.drew⟩

theorem Three.lt1 (h : Three w X T a b c d B W C) : w.heap.size + 1 < X.heap.size ∧ B < X.heap.size := ⟨h.1.lt1, h.2.lt⟩

theorem Three.far (h : Three w X T a b c d B W C) {p : Addr} (hp : w.heap.size + 1 < p.block ∧ B < p.block) (u : Value) : Three w (X.setCell p u) T a b c d B W C :=
  ⟨h.1.far hp.1 u, h.2.far (by omega) u⟩

theorem Three.four (h : Three w X T a b c d B W C) :
    X.cell? ⟨w.heap.size, 0, none⟩ = some (.int .i64 a) ∧ X.cell? ⟨w.heap.size, 1, none⟩ = some (.int .i64 b) ∧ X.cell? ⟨w.heap.size + 1, 0, none⟩ = some (.int .i64 c) ∧ X.cell? ⟨w.heap.size + 1, 1, none⟩ = some (.int .i64 d) := h.1.four
end

def OutAt2 (w wx : World) (T : TypeId) (a b c d : Int) (B : Nat) (W C : Int) (q : Bool) (v o : Value) : Prop :=
  ∃ B2 : Nat, v = .pointer (some ⟨B2, 0, none⟩) ∧ o = .bool q ∧ Hid (At2 wx B2 41 W C) ∧ Hid (Three w wx T a b c d B W C)

def OutAt (w wx : World) (T : TypeId) (a b c d W C : Int) (q : Bool) (v o : Value) : Prop :=
  ∃ B : Nat, v = .pointer (some ⟨B, 0, none⟩) ∧ o = .bool q ∧ Hid (At2 wx B 41 W C) ∧ Hid (Two w wx T a b c d) ∧ w.heap.size + 1 < B

set_option maxHeartbeats 8000000 in
theorem exHybridMerge (a b p c d : Int) (w : World) :
    Calls Try.prog 9 #[two a b, .int .i64 p, two c d] w fun e w' => e = .returned (.bool true) ∧ Below w.heap.size w w' := by
  obtain ⟨W, C, q, R⟩ : ∃ W C q, MergeIs a b p c d W C q := ⟨_, _, _, rfl, rfl, rfl⟩
  have HM : Hid (∀ X, Calls Try.prog 29 #[two a b, .int .i64 p, two c d] X fun e w' => e = .returned (.tuple #[two W C, .bool q]) ∧ Below X.heap.size X w') := hid (fun X => by
    have h := HybridMerge_spec a b p c d X
    unfold MergePost at h
    rw [R.1, R.2.1, R.2.2] at h
    exact h)
  have HN : Hid (∀ X, Calls Try.prog 30 #[two a b, .int .i64 p, two c d] X fun e w' => e = .returned (.tuple #[two W C, .bool q]) ∧ Below X.heap.size X w') := hid (fun X => by
    have h := HybridMerge_impl a b p c d X
    unfold MergePost at h
    rw [R.1, R.2.1, R.2.2] at h
    exact h)
  clear R
  go_enter Try.func9, Try.ntmps9
  go_wp2_with fail
  obtain ⟨X0, hX⟩ : ∃ X, (w.alloc (.cells #[.int .i64 a, .int .i64 b] 39)).alloc (.cells #[.int .i64 c, .int .i64 d] 39) = X := ⟨_, rfl⟩
  have s0 : Hid (Two w X0 39 a b c d) := hid (by
    rw [← hX]
    exact ⟨(At2.new w 39 a b).alloc _, by have := At2.new (w.alloc (.cells #[.int .i64 a, .int .i64 b] 39)) 39 c d; simpa using this, below2 w _ _⟩)
  rw [hX]
  clear hX
  go_cut [7, 8] (fun v o wx => OutAt w wx 39 a b c d W C q v o)
  case first =>
    go_region_held3 (fun w' => w'.cell? ⟨w.heap.size, 0, none⟩ = some (.int .i64 a) ∧ w'.cell? ⟨w.heap.size, 1, none⟩ = some (.int .i64 b) ∧ w'.cell? ⟨w.heap.size + 1, 0, none⟩ = some (.int .i64 c) ∧ w'.cell? ⟨w.heap.size + 1, 1, none⟩ = some (.int .i64 d))
        (first | with_reducible exact s0.out.drew.four | with_reducible exact (s0.out.alloc _).drew.four | with_reducible exact s1.out.four | with_reducible exact (s1.out.alloc _).four | with_reducible exact s2.out.four | with_reducible exact (s2.out.alloc _).four | with_reducible exact s3.out.four | with_reducible exact (s3.out.alloc _).four | with_reducible exact ((s3.out.far (p := ⟨_, 0, none⟩) zb _).far (p := ⟨_, 1, none⟩) zb _).four)
        (first
          | (go_at_call 22; (with_reducible refine (toHybrid_any _ _ _).mono ?_); rintro e X1 ⟨rfl, hb1⟩; have s1 := hid ((s0.out.alloc _).drew.below hb1); have zb := s0.out.lt1; have zl : X0.heap.size < (X0.alloc (.cells #[.int .i64 0, .int .i64 0] 41)).drew.heap.size := (At2.new X0 41 0 0).lt; have zn : At2 (X0.alloc (.cells #[.int .i64 0, .int .i64 0] 41)).drew X0.heap.size 41 0 0 := At2.new X0 41 0 0; have z1 := hid (zn.below hb1 zl); clear zl zn)
          | (go_at_call 22; (with_reducible refine (toHybrid_any _ _ _).mono ?_); rintro e X1 ⟨rfl, hb1⟩; have s1 := hid (s0.out.drew.below hb1))
          | (go_at_call 22; (with_reducible refine (toHybrid_any _ _ _).mono ?_); rintro e X2 ⟨rfl, hb2⟩; have z2 := hid (z1.out.below hb2 z1.out.lt); have s2 := hid (s1.out.below hb2))
          | (go_at_call 22; (with_reducible refine (toHybrid_any _ _ _).mono ?_); rintro e X2 ⟨rfl, hb2⟩; have s2 := hid ((s1.out.alloc _).below hb2); have zb := s1.out.lt1; have zl : X1.heap.size < (X1.alloc (.cells #[.int .i64 0, .int .i64 0] 41)).heap.size := (At2.new X1 41 0 0).lt; have zn : At2 (X1.alloc (.cells #[.int .i64 0, .int .i64 0] 41)) X1.heap.size 41 0 0 := At2.new X1 41 0 0; have z2 := hid (zn.below hb2 zl); clear zl zn)
          | (go_at_call 22; (with_reducible refine (toHybrid_any _ _ _).mono ?_); rintro e X2 ⟨rfl, hb2⟩; have s2 := hid (s1.out.below hb2))
          | (go_at_call 29; (with_reducible refine (HM.out _).mono ?_); rintro e X3 ⟨rfl, hb3⟩; have z3 := hid (z2.out.below hb3 z2.out.lt); have s3 := hid (s2.out.below hb3); obtain ⟨zc0, zc1, zf0, zf1⟩ := z3.out.cells)
          | (go_at_call 29; (with_reducible refine (HM.out _).mono ?_); rintro e X3 ⟨rfl, hb3⟩; have s3 := hid ((s2.out.alloc _).below hb3); have zb := s2.out.lt1; have zl : X2.heap.size < (X2.alloc (.cells #[.int .i64 0, .int .i64 0] 41)).heap.size := (At2.new X2 41 0 0).lt; have zn : At2 (X2.alloc (.cells #[.int .i64 0, .int .i64 0] 41)) X2.heap.size 41 0 0 := At2.new X2 41 0 0; have z3 := hid (zn.below hb3 zl); clear zl zn; obtain ⟨zc0, zc1, zf0, zf1⟩ := z3.out.cells)
          | (go_at_call 29; (with_reducible refine (HM.out _).mono ?_); rintro e X3 ⟨rfl, hb3⟩; have s3 := hid (s2.out.below hb3)))
    all_goals
      go_wp2
      go_meet
      first
        | exact ⟨_, rfl, rfl, hid (At2.new X3 41 W C), hid (s3.out.alloc _), s3.out.lt1⟩
        | exact ⟨_, rfl, rfl, hid ((z3.out.set0 W).set1 C), hid ((s3.out.far (p := ⟨_, 0, none⟩) zb _).far (p := ⟨_, 1, none⟩) zb _), zb⟩
  case rest =>
    obtain ⟨B, rfl, rfl, hz, hs, hB⟩ := hcut
    obtain ⟨X4, hX4⟩ : ∃ X, wc = X := ⟨_, rfl⟩
    subst hX4
    have s4 : Hid (Three w wc 39 a b c d B W C) := hid ⟨hs.out, hz.out⟩
    clear hz hs hB
    go_upto_region 2 with (fail)
    go_cut [9, 10] (fun v o wx => OutAt2 w wx 39 a b c d B W C q v o)
    case first =>
      go_region_held3 (fun w' => w'.cell? ⟨w.heap.size, 0, none⟩ = some (.int .i64 a) ∧ w'.cell? ⟨w.heap.size, 1, none⟩ = some (.int .i64 b) ∧ w'.cell? ⟨w.heap.size + 1, 0, none⟩ = some (.int .i64 c) ∧ w'.cell? ⟨w.heap.size + 1, 1, none⟩ = some (.int .i64 d))
          (first | with_reducible exact s4.out.drew.four | with_reducible exact (s4.out.alloc _).drew.four | with_reducible exact s5.out.four | with_reducible exact (s5.out.alloc _).four | with_reducible exact s6.out.four | with_reducible exact (s6.out.alloc _).four | with_reducible exact s7.out.four | with_reducible exact (s7.out.alloc _).four | with_reducible exact ((s7.out.far (p := ⟨_, 0, none⟩) zb _).far (p := ⟨_, 1, none⟩) zb _).four)
          (first
            | (go_at_call 22; (with_reducible refine (toHybrid_any _ _ _).mono ?_); rintro e X5 ⟨rfl, hb5⟩; have s5 := hid ((s4.out.alloc _).drew.below hb5); have zb := s4.out.lt1; have zl : wc.heap.size < (wc.alloc (.cells #[.int .i64 0, .int .i64 0] 41)).drew.heap.size := (At2.new wc 41 0 0).lt; have zn : At2 (wc.alloc (.cells #[.int .i64 0, .int .i64 0] 41)).drew wc.heap.size 41 0 0 := At2.new wc 41 0 0; have z5 := hid (zn.below hb5 zl); clear zl zn)
            | (go_at_call 22; (with_reducible refine (toHybrid_any _ _ _).mono ?_); rintro e X5 ⟨rfl, hb5⟩; have s5 := hid (s4.out.drew.below hb5))
            | (go_at_call 22; (with_reducible refine (toHybrid_any _ _ _).mono ?_); rintro e X6 ⟨rfl, hb6⟩; have z6 := hid (z5.out.below hb6 z5.out.lt); have s6 := hid (s5.out.below hb6))
            | (go_at_call 22; (with_reducible refine (toHybrid_any _ _ _).mono ?_); rintro e X6 ⟨rfl, hb6⟩; have s6 := hid ((s5.out.alloc _).below hb6); have zb := s5.out.lt1; have zl : X5.heap.size < (X5.alloc (.cells #[.int .i64 0, .int .i64 0] 41)).heap.size := (At2.new X5 41 0 0).lt; have zn : At2 (X5.alloc (.cells #[.int .i64 0, .int .i64 0] 41)) X5.heap.size 41 0 0 := At2.new X5 41 0 0; have z6 := hid (zn.below hb6 zl); clear zl zn)
            | (go_at_call 22; (with_reducible refine (toHybrid_any _ _ _).mono ?_); rintro e X6 ⟨rfl, hb6⟩; have s6 := hid (s5.out.below hb6))
            | (go_at_call 30; (with_reducible refine (HN.out _).mono ?_); rintro e X7 ⟨rfl, hb7⟩; have z7 := hid (z6.out.below hb7 z6.out.lt); have s7 := hid (s6.out.below hb7); obtain ⟨zc0, zc1, zf0, zf1⟩ := z7.out.cells)
            | (go_at_call 30; (with_reducible refine (HN.out _).mono ?_); rintro e X7 ⟨rfl, hb7⟩; have s7 := hid ((s6.out.alloc _).below hb7); have zb := s6.out.lt1; have zl : X6.heap.size < (X6.alloc (.cells #[.int .i64 0, .int .i64 0] 41)).heap.size := (At2.new X6 41 0 0).lt; have zn : At2 (X6.alloc (.cells #[.int .i64 0, .int .i64 0] 41)) X6.heap.size 41 0 0 := At2.new X6 41 0 0; have z7 := hid (zn.below hb7 zl); clear zl zn; obtain ⟨zc0, zc1, zf0, zf1⟩ := z7.out.cells)
            | (go_at_call 30; (with_reducible refine (HN.out _).mono ?_); rintro e X7 ⟨rfl, hb7⟩; have s7 := hid (s6.out.below hb7)))
      all_goals
        go_wp2
        go_meet
        first
          | exact ⟨_, rfl, rfl, hid (At2.new X7 41 W C), hid (s7.out.alloc _)⟩
          | exact ⟨_, rfl, rfl, hid ((z7.out.set0 W).set1 C), hid ((s7.out.far (p := ⟨_, 0, none⟩) zb _).far (p := ⟨_, 1, none⟩) zb _)⟩
    case rest =>
      clear s4
      obtain ⟨B2, rfl, rfl, hz2, hs2⟩ := hcut
      obtain ⟨x0, x1, _, _⟩ := hz2.out.cells
      obtain ⟨y0, y1, _, _⟩ := hs2.out.2.cells
      have hsz := hs2.out.1.2.2.size
      go_wp2_with fail
      refine (eqHybrid_same _ _ _).mono ?_
      rintro e w9 ⟨rfl, hb9⟩
      have B9 := hid (hs2.out.1.2.2.trans (hb9.mono hsz))
      have hne : (q != q) = false := by simp
      clear hb9
      go_wp2
      go_ret
      exact ⟨rfl, B9.out⟩
end Go.Proofs.Ytmbmdhojefdihaa
