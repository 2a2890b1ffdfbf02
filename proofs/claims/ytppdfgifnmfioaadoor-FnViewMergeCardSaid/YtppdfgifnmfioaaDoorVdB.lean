/-
  The draws of a view and a number: DrawViewValid, DrawViewJoin, DrawViewLeave, DrawViewSplit. No condition.
-/
import Derived.Test.YtppdfgifnmfioaaDoorVdA
namespace Go.Proofs.YtppdfgifnmfioaaDoor
open Go.RowKit
set_option linter.unusedVariables false
set_option linter.unusedSimpArgs false

theorem RowIs.allocV {k : IntKind} {w : World} {a : Option Addr} {len cap : Nat} {zs : List Int} (h : RowIs k w a len cap zs) (o : Obj) : RowIs k (w.alloc o) a len cap zs := by
  rcases h with h | ⟨x, rfl, hl, hm, hz, hc, hw⟩
  · exact .inl h
  · exact .inr ⟨x, rfl, hl, hm, hz, fun i hi => (World.cell?_alloc_lt w o _ (World.block_lt_of_cell? w _ (hc i hi))).trans (hc i hi), hw⟩
/-- a view that was drawn, by itself -/
def DOne (w : World) (e : Ending) (w' : World) : Prop :=
  ∃ (n : Int) (A : Option Addr) (c : Nat) (zs : List Int), e = .returned (vwV n (.slice A zs.length c)) ∧ OwI w' w.heap.size (.slice A zs.length c) zs ∧ zs.length ≤ 9 ∧ Below w.heap.size w w'
/-- a view and a number -/
def DTwo (w : World) (e : Ending) (w' : World) : Prop :=
  ∃ (n : Int) (A : Option Addr) (c : Nat) (zs : List Int) (x : Int), e = .returned (.tuple #[vwV n (.slice A zs.length c), .int .i64 x]) ∧ OwI w' w.heap.size (.slice A zs.length c) zs ∧ zs.length ≤ 9 ∧ -1 ≤ x ∧ x ≤ 8 ∧ Below w.heap.size w w'

set_option maxHeartbeats 2000000 in
theorem DrawViewValid_any {a : Option Addr} {len cap : Nat} {cs : List Int} (w : World) (h : RowIs .u8 w a len cap cs) :
    Calls Tryd.prog 32 #[.slice a len cap] w (DOne w) := by
  obtain ⟨w0, hw0⟩ : ∃ W, w.alloc (.cells vz 25) = W := ⟨_, rfl⟩
  have h0 := hid (show RowIs .u8 w0 a len cap cs by rw [← hw0]; exact h.allocV _)
  have hZ := hid (show Cs w0 w.heap.size 25 vz by rw [← hw0]; exact Cs.new _ _ _)
  have hB := hid (show Below w.heap.size w w0 by rw [← hw0]; exact below1 _ _)
  have hz := hid (show w.heap.size < w0.heap.size from hZ.out.lt)
  replace hw0 := hid hw0
  clear h
  go_enter Tryd.func32, Tryd.ntmps32
  go_upto_region 1 with (fail)
  rw [hw0.out]
  go_wp2_with fail
  refine (l6Open_any w0 h0.out).mono ?_
  rintro e w1 ⟨rfl, r1, hb1, hz1⟩
  have r1 := hid r1
  have hb1 := hid hb1
  clear h0 hz1
  go_wp2_with fail
  refine (l92View_any _ r1.out (by omega)).mono ?_
  rintro e w2 ⟨n, A, c, zs, rfl, ho, hl, -, hg⟩
  have hz' := hz.out
  have hZ2 := hid (grown_cs (hZ.out.step hb1.out) hg (by intro e; injection e with e; omega))
  have hB2 := hid ((hB.out.trans (hb1.out.mono (by omega))).grown hg (by have := hb1.out.size; omega) (fun k e => by injection e with e; omega))
  have hO := hid (ho.fillV hZ2.out (.int .i64 n) (.slice A zs.length c))
  have hO' := hid (OwI.more hO.out (show w.heap.size ≤ w1.heap.size by have := hb1.out.size; omega))
  obtain ⟨f1, f2⟩ := hZ2.out.fillV hB2.out (Nat.le_refl _) (.int .i64 n) (.slice A zs.length c)
  replace f2 := hid f2
  obtain ⟨z0, z1, z2, z3⟩ := hZ2.out.two
  obtain ⟨y0, y1, -, -⟩ := f1.two
  clear f1 hO ho hg hz'
  go_wp2
  exact bodyPost_ret (v := vwV n (.slice A zs.length c)) (by simp [results, Tryd.results32, go_sem, y0, y1]) rfl ⟨n, A, c, zs, rfl, hO'.out, hl, f2.out⟩

set_option maxHeartbeats 4000000 in
theorem DrawViewJoin_any {a : Option Addr} {len cap : Nat} {cs : List Int} (w : World) (h : RowIs .u8 w a len cap cs) :
    Calls Tryd.prog 13 #[.slice a len cap] w (DTwo w) := by
  obtain ⟨w0, hw0⟩ : ∃ W, w.alloc (.cells vz 25) = W := ⟨_, rfl⟩
  have h0 := hid (show RowIs .u8 w0 a len cap cs by rw [← hw0]; exact h.allocV _)
  have hZ := hid (show Cs w0 w.heap.size 25 vz by rw [← hw0]; exact Cs.new _ _ _)
  have hB := hid (show Below w.heap.size w w0 by rw [← hw0]; exact below1 _ _)
  have hz := hid (show w.heap.size < w0.heap.size from hZ.out.lt)
  replace hw0 := hid hw0
  clear h
  go_enter Tryd.func13, Tryd.ntmps13
  go_upto_region 1 with (fail)
  rw [hw0.out]
  go_wp2_with fail
  refine (l6Open_any w0 h0.out).mono ?_
  rintro e w1 ⟨rfl, r1, hb1, hz1⟩
  have r1 := hid r1
  have hb1 := hid hb1
  have hgz := hid hz1
  clear h0 hz1
  go_wp2_with fail
  refine (l92View_any _ r1.out (by omega)).mono ?_
  rintro e w2 ⟨n, A, c, zs, rfl, ho, hl, r2, hg⟩
  have hz' := hz.out
  obtain ⟨u, hu⟩ : ∃ u, w2.alloc (.cells #[.int .i64 n, .slice A zs.length c] 25) = u := ⟨_, rfl⟩
  have hZu := hid (show Cs u w.heap.size 25 vz by rw [← hu]; exact (grown_cs (hZ.out.step hb1.out) hg (by intro e; injection e with e; omega)).alloc _)
  have hBu := hid (show Below w.heap.size w u by rw [← hu]; exact ((hB.out.trans (hb1.out.mono (by omega))).grown hg (by have := hb1.out.size; omega) (fun k e => by injection e with e; omega)).alloc (by have := hb1.out.size; have := hg.size; omega) _)
  have hCu := hid (show Cs u w2.heap.size 25 #[.int .i64 n, .slice A zs.length c] by rw [← hu]; exact Cs.new _ _ _)
  have hOu := hid (show OwI u w1.heap.size (.slice A zs.length c) zs by rw [← hu]; exact ho.alloc_ _)
  have hRu := hid (show Rdr u w0.heap.size w0.heap.size 12 by rw [← hu]; exact (r2.le (by omega)).below (below1 _ _) r2.lt)
  have hw12 : w1.heap.size ≤ w2.heap.size := hg.size
  have hgw1 : w0.heap.size < w1.heap.size := by have := hgz.out; omega
  replace hu := hid hu
  clear ho hg r2 hZ hB hb1 r1
  go_upto_region 3 with (fail)
  rw [hu.out]
  have hRd : Hid (Rdr u.drew w0.heap.size w0.heap.size 12) := hid (hRu.out.below (Below.refl _ u).drew hRu.out.lt)
  obtain ⟨d0, d1, -, -⟩ := hCu.out.two
  obtain ⟨z0, z1, z2, z3⟩ := hZu.out.two
  go_region_law (go_simp; go_at_call 36; (with_reducible refine (pick_any 10 _ hRd.out (by omega) (by omega) (by omega)).mono ?_); rintro e w6 ⟨x, rfl, hx0, hx1, r6, q6, -⟩; have q6' : u.grownBy w6 (some w0.heap.size) := ⟨q6.os, q6.tape, q6.output, q6.size, q6.block⟩; have hC6 := hid (grown_cs hCu.out q6' (by intro e; injection e with e; omega)); have hZ6 := hid (grown_cs hZu.out q6' (by intro e; injection e with e; omega)); have hO6 := hid (own_of_block hOu.out fun k hk => q6'.block k (hOu.out.lt k hk).2 (fun e => by injection e with e; have := (hOu.out.lt k hk).1; omega)); have hB6 := hid (hBu.out.grown q6' (by have := hZu.out.lt; omega) (fun k e => by injection e with e; omega)); have hw2 : IntKind.i64.wrap (x - 1) = x - 1 := IntWalk.i64_in _ (by omega); obtain ⟨e0, e1, -, -⟩ := hC6.out.two; obtain ⟨s0, s1, s2, s3⟩ := hZ6.out.two; clear r6 q6 q6')
  all_goals
    obtain ⟨f1, f2⟩ := hZ6.out.fillV hB6.out (Nat.le_refl _) (.int .i64 n) (.slice A zs.length c)
    replace f2 := hid f2
    have hO9 := hid (OwI.more (hO6.out.fillV hZ6.out (.int .i64 n) (.slice A zs.length c)) (show w.heap.size ≤ w1.heap.size by omega))
    obtain ⟨y0, y1, -, -⟩ := f1.two
    clear f1 hO6 hZ6 hC6 hB6
    go_wp2
    exact bodyPost_ret (v := .tuple #[vwV n (.slice A zs.length c), .int .i64 (x - 1)]) (by simp [results, Tryd.results13, go_sem, y0, y1]) rfl ⟨n, A, c, zs, x - 1, rfl, hO9.out, hl, by omega, by omega, f2.out⟩

set_option maxHeartbeats 2000000 in
theorem DrawViewLeave_any {a : Option Addr} {len cap : Nat} {cs : List Int} (w : World) (h : RowIs .u8 w a len cap cs) :
    Calls Tryd.prog 19 #[.slice a len cap] w (DTwo w) := by
  obtain ⟨w0, hw0⟩ : ∃ W, w.alloc (.cells vz 25) = W := ⟨_, rfl⟩
  have h0 := hid (show RowIs .u8 w0 a len cap cs by rw [← hw0]; exact h.allocV _)
  have hZ := hid (show Cs w0 w.heap.size 25 vz by rw [← hw0]; exact Cs.new _ _ _)
  have hB := hid (show Below w.heap.size w w0 by rw [← hw0]; exact below1 _ _)
  have hz := hid (show w.heap.size < w0.heap.size from hZ.out.lt)
  replace hw0 := hid hw0
  clear h
  go_enter Tryd.func19, Tryd.ntmps19
  go_upto_region 1 with (fail)
  rw [hw0.out]
  go_wp2_with fail
  refine (DrawViewJoin_any w0 h0.out).mono ?_
  rintro e w1 ⟨n, A, c, zs, x, rfl, ho, hl, hx0, hx1, hb⟩
  have hZ2 := hid (hZ.out.step hb)
  have hB2 := hid (hB.out.trans (hb.mono (Nat.le_of_lt hz.out)))
  have hO' := hid (OwI.more (ho.fillV hZ2.out (.int .i64 n) (.slice A zs.length c)) (Nat.le_of_lt hz.out))
  obtain ⟨f1, f2⟩ := hZ2.out.fillV hB2.out (Nat.le_refl _) (.int .i64 n) (.slice A zs.length c)
  replace f2 := hid f2
  obtain ⟨z0, z1, z2, z3⟩ := hZ2.out.two
  obtain ⟨y0, y1, -, -⟩ := f1.two
  clear f1 ho hb
  go_wp2
  exact bodyPost_ret (v := .tuple #[vwV n (.slice A zs.length c), .int .i64 x]) (by simp [results, Tryd.results19, go_sem, y0, y1]) rfl ⟨n, A, c, zs, x, rfl, hO'.out, hl, hx0, hx1, f2.out⟩

set_option maxHeartbeats 2000000 in
theorem DrawViewSplit_any {a : Option Addr} {len cap : Nat} {cs : List Int} (w : World) (h : RowIs .u8 w a len cap cs) :
    Calls Tryd.prog 26 #[.slice a len cap] w (DTwo w) := by
  obtain ⟨w0, hw0⟩ : ∃ W, w.alloc (.cells vz 25) = W := ⟨_, rfl⟩
  have h0 := hid (show RowIs .u8 w0 a len cap cs by rw [← hw0]; exact h.allocV _)
  have hZ := hid (show Cs w0 w.heap.size 25 vz by rw [← hw0]; exact Cs.new _ _ _)
  have hB := hid (show Below w.heap.size w w0 by rw [← hw0]; exact below1 _ _)
  have hz := hid (show w.heap.size < w0.heap.size from hZ.out.lt)
  replace hw0 := hid hw0
  clear h
  go_enter Tryd.func26, Tryd.ntmps26
  go_upto_region 1 with (fail)
  rw [hw0.out]
  go_wp2_with fail
  refine (DrawViewJoin_any w0 h0.out).mono ?_
  rintro e w1 ⟨n, A, c, zs, x, rfl, ho, hl, hx0, hx1, hb⟩
  have hZ2 := hid (hZ.out.step hb)
  have hB2 := hid (hB.out.trans (hb.mono (Nat.le_of_lt hz.out)))
  have hO' := hid (OwI.more (ho.fillV hZ2.out (.int .i64 n) (.slice A zs.length c)) (Nat.le_of_lt hz.out))
  obtain ⟨f1, f2⟩ := hZ2.out.fillV hB2.out (Nat.le_refl _) (.int .i64 n) (.slice A zs.length c)
  replace f2 := hid f2
  obtain ⟨z0, z1, z2, z3⟩ := hZ2.out.two
  obtain ⟨y0, y1, -, -⟩ := f1.two
  clear f1 ho hb
  go_wp2
  exact bodyPost_ret (v := .tuple #[vwV n (.slice A zs.length c), .int .i64 x]) (by simp [results, Tryd.results26, go_sem, y0, y1]) rfl ⟨n, A, c, zs, x, rfl, hO'.out, hl, hx0, hx1, f2.out⟩
end Go.Proofs.YtppdfgifnmfioaaDoor
