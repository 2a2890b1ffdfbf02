/-
  The draws of pairs of stamps and of hybrid times. No condition.
-/
import Derived.Test.YthfbchnhjhfpaaaStF
namespace Go.Proofs.Ythfbchnhjhfpaaa
open Go.RowKit

theorem RowIs.alloc {k : IntKind} {w : World} {a : Option Addr} {len cap : Nat} {zs : List Int} (h : RowIs k w a len cap zs) (o : Obj) : RowIs k (w.alloc o) a len cap zs := by
  rcases h with h | ⟨x, rfl, hl, hm, hz, hc, hw⟩
  · exact .inl h
  · exact .inr ⟨x, rfl, hl, hm, hz, fun i hi => (World.cell?_alloc_lt w o _ (World.block_lt_of_cell? w _ (hc i hi))).trans (hc i hi), hw⟩

def DrawSS (w : World) (e : Ending) (w' : World) : Prop :=
  ∃ t k u h : Int, e = .returned (.tuple #[two t k, two u h]) ∧ Below w.heap.size w w'

def DrawHP (w : World) (e : Ending) (w' : World) : Prop :=
  ∃ t k p : Int, e = .returned (.tuple #[two t k, .int .i64 p]) ∧ Below w.heap.size w w'

def DrawHPH (w : World) (e : Ending) (w' : World) : Prop :=
  ∃ t k p u h : Int, e = .returned (.tuple #[two t k, .int .i64 p, two u h]) ∧ Below w.heap.size w w'

set_option maxHeartbeats 2000000 in
theorem DrawStampLess_any {a : Option Addr} {len cap : Nat} {zs : List Int} (w : World) (h : RowIs .u8 w a len cap zs) :
    Calls Try.prog 30 #[.slice a len cap] w (DrawSS w) := by
  have h0 := hid ((h.alloc (.cells #[.int .i64 0, .int .i64 0] 38)).alloc (.cells #[.int .i64 0, .int .i64 0] 38))
  have B0 := hid (below2 w (.cells #[.int .i64 0, .int .i64 0] 38) (.cells #[.int .i64 0, .int .i64 0] 38))
  have p0 := hid ((At2.new w 38 0 0).alloc (.cells #[.int .i64 0, .int .i64 0] 38))
  have p1 := hid (At2.new (w.alloc (.cells #[.int .i64 0, .int .i64 0] 38)) 38 0 0)
  clear h
  go_enter Try.func30, Try.ntmps30
  go_wp2_with fail
  refine (l6Open_any _ h0.out).mono ?_
  rintro e w1 ⟨rfl, r1, b1, s1⟩
  have p01 := hid (p0.out.below b1 (by simp; omega))
  have p11 := hid (p1.out.below b1 (by simp))
  have B1 := hid (B0.out.trans (b1.mono (by simp; omega)))
  obtain ⟨G, hG⟩ : ∃ G, ((w.alloc (.cells #[.int .i64 0, .int .i64 0] 38)).alloc (.cells #[.int .i64 0, .int .i64 0] 38)).heap.size = G := ⟨_, rfl⟩
  have hG2 : G = w.heap.size + 2 := by rw [← hG]; simp
  rw [hG] at r1 b1 s1 ⊢
  clear b1 s1 h0 B0 p0 p1
  have hG1 : w.heap.size + 2 ≤ G := by omega
  clear hG hG2
  go_wp2_with fail
  refine (l91Stamp_any w1 r1 (by omega)).mono ?_
  rintro e w2 ⟨t, k, rfl, r2, q2⟩
  have p02 := hid (p01.out.grown q2 (by omega))
  have p12 := hid (p11.out.grown q2 (by simp; omega))
  have B2 := hid (B1.out.grown q2 (by have := B1.out.size; omega) (fun j hj => by injection hj with hj; omega))
  clear q2 r1 p01 p11 B1
  have z2 : G < w2.heap.size := r2.lt
  have r2' : Hid (Rdr (w2.alloc (.cells #[.int .i64 t, .int .i64 k] 38)).drew G G (0 + 4)) := hid (r2.allocs _)
  have p02' : Hid (At2 (w2.alloc (.cells #[.int .i64 t, .int .i64 k] 38)).drew w.heap.size 38 0 0) := hid (p02.out.alloc _)
  have p12' : Hid (At2 (w2.alloc (.cells #[.int .i64 t, .int .i64 k] 38)).drew (w.heap.size + 1) 38 0 0) := hid (At2.alloc (by have := p12.out; simpa using this) _)
  have a2 : Hid (At2 (w2.alloc (.cells #[.int .i64 t, .int .i64 k] 38)).drew w2.heap.size 38 t k) := hid (At2.new w2 38 t k)
  have B2' : Hid (Below w.heap.size w (w2.alloc (.cells #[.int .i64 t, .int .i64 k] 38)).drew) := hid ((B2.out.alloc (by omega) _).drew)
  have z2' : w2.heap.size < (w2.alloc (.cells #[.int .i64 t, .int .i64 k] 38)).drew.heap.size := by show _ < (w2.alloc _).heap.size; simp
  have hn0 : w2.heap.size ≠ w.heap.size := by omega
  have hn1 : w2.heap.size ≠ w.heap.size + 1 := by omega
  clear r2 p02 p12 B2
  go_wp2_with fail
  go_region_held3 (fun w' => w'.cell? ⟨w2.heap.size, 0, none⟩ = some (.int .i64 t) ∧ w'.cell? ⟨w2.heap.size, 1, none⟩ = some (.int .i64 k)) (first | with_reducible exact ⟨a2.out.c0, a2.out.c1⟩ | with_reducible exact ⟨a3.out.c0, a3.out.c1⟩ | with_reducible exact ⟨((a3.out.far (p := ⟨w.heap.size, 0, none⟩) hn0 _).far (p := ⟨w.heap.size, 1, none⟩) hn0 _).c0, ((a3.out.far (p := ⟨w.heap.size, 0, none⟩) hn0 _).far (p := ⟨w.heap.size, 1, none⟩) hn0 _).c1⟩ | with_reducible exact ⟨((((a3.out.far (p := ⟨w.heap.size, 0, none⟩) hn0 _).far (p := ⟨w.heap.size, 1, none⟩) hn0 _).far (p := ⟨w.heap.size + 1, 0, none⟩) hn1 _).far (p := ⟨w.heap.size + 1, 1, none⟩) hn1 _).c0, ((((a3.out.far (p := ⟨w.heap.size, 0, none⟩) hn0 _).far (p := ⟨w.heap.size, 1, none⟩) hn0 _).far (p := ⟨w.heap.size + 1, 0, none⟩) hn1 _).far (p := ⟨w.heap.size + 1, 1, none⟩) hn1 _).c1⟩) (first | (go_at_call 57; (with_reducible refine (l91Stamp_any _ r2'.out (by omega)).mono ?_); rintro e w3 ⟨u, h, rfl, r3, q3⟩; have a3 := hid (a2.out.grown q3 (by omega)); have P0 := hid (p02'.out.grown q3 (by omega)); have P1 := hid (p12'.out.grown q3 (by omega)); have c0 := P0.out.c0; have c1 := P0.out.c1; have d0 := P1.out.c0; have d1 := P1.out.c1; have e0 := P0.out.f0; have e1 := P0.out.f1; have f0 := P1.out.f0; have f1 := P1.out.f1))
  have hne : w.heap.size ≠ w.heap.size + 1 := by omega
  have x0 := hid (((P0.out.set0 t).set1 k).far (p := ⟨w.heap.size + 1, 0, none⟩) hne (.int .i64 u) |>.far (p := ⟨w.heap.size + 1, 1, none⟩) hne (.int .i64 h))
  have x1 := hid ((((P1.out.far (p := ⟨w.heap.size, 0, none⟩) hne.symm (.int .i64 t)).far (p := ⟨w.heap.size, 1, none⟩) hne.symm (.int .i64 k)).set0 u).set1 h)
  have B3 := hid ((B2'.out.grown q3 (by omega) (fun j hj => by injection hj with hj; omega)))
  clear c0 c1 d0 d1 e0 e1 f0 f1
  go_wp2
  exact bodyPost_ret (v := .tuple #[two t k, two u h]) (by simp [results, Try.results30, go_sem, x0.out.c0, x0.out.c1, x1.out.c0, x1.out.c1]) rfl
    ⟨t, k, u, h, rfl, (((B3.out.setCell (Nat.le_refl _) _).setCell (Nat.le_refl _) _).setCell (Nat.le_add_right _ _) _).setCell (Nat.le_add_right _ _) _⟩

end Go.Proofs.Ythfbchnhjhfpaaa
