/-
  The draw of a view and of some of its members: DrawViewMajority. No condition.
-/
import Derived.Test.YtppdfgifnmfioaaDoorVdB
namespace Go.Proofs.YtppdfgifnmfioaaDoor
open Go.RowKit
set_option linter.unusedVariables false
set_option linter.unusedSimpArgs false

/-- the list that is being drawn, beside what was there at u -/
structure Dm (u wr : World) (B g P : Nat) (o : Value) (os : List Int) : Prop where
  gr : u.grownBy wr (some g)
  rd : Rdr wr B g P
  ow : OwI wr u.heap.size o os
section
variable {u wr w' : World} {B g P Q : Nat} {o o' : Value} {os os' : List Int}

theorem Dm.below (h : Dm u wr B g P o os) (hb : Below wr.heap.size wr w') : Dm u w' B g P o os :=
  ⟨grown_below h.gr (hb.mono h.gr.size), h.rd.below hb h.rd.lt, own_of_block h.ow fun k hk => hb.block k (h.ow.lt k hk).2⟩

theorem Dm.pick (h : Dm u wr B g P o os) (hg : wr.grownBy w' (some g)) (hl : g < u.heap.size) (hr : Rdr w' B g Q) : Dm u w' B g Q o os :=
  ⟨grown_set h.gr hg, hr, h.ow.pick hg hl⟩

theorem Dm.le (h : Dm u wr B g P o os) (hq : P ≤ Q) : Dm u wr B g Q o os := ⟨h.gr, h.rd.le hq, h.ow⟩

theorem Dm.app (h : Dm u wr B g P o os) (hg : wr.grownBy w' o.ownBlock) (hl : g < u.heap.size) (ho : OwI w' u.heap.size o' os') : Dm u w' B g P o' os' :=
  ⟨⟨hg.os.trans h.gr.os, hg.tape.trans h.gr.tape, hg.output.trans h.gr.output, Nat.le_trans h.gr.size hg.size, fun i hi hne => (hg.block i (by have := h.gr.size; omega) (fun e => by have := (h.ow.lt _ e.symm).1; omega)).trans (h.gr.block i hi hne)⟩,
    h.rd.keep fun k hk => hg.block k (by have := h.rd.lt; omega) (fun e => by have := (h.ow.lt _ e.symm).1; omega), ho⟩
end

theorem OwI.rdM {w : World} {B c : Nat} {A : Option Addr} {zs : List Int} (h : OwI w B (.slice A zs.length c) zs) : RdI w w.heap.size A zs.length zs := by
  obtain ⟨A', c', e, hr⟩ := h.form
  injection e with e1 e2 e3
  rw [e1]
  exact hr
/-- a view and a list of some members -/
def DMaj (w : World) (e : Ending) (w' : World) : Prop :=
  ∃ (n : Int) (A : Option Addr) (c : Nat) (zs : List Int) (A2 : Option Addr) (c2 : Nat) (so : List Int), e = .returned (.tuple #[vwV n (.slice A zs.length c), .slice A2 so.length c2]) ∧ OwI w' w.heap.size (.slice A zs.length c) zs ∧ OwI w' w.heap.size (.slice A2 so.length c2) so ∧ zs.length ≤ 9 ∧ so.length ≤ 10 ∧ Below w.heap.size w w'

set_option maxRecDepth 100000 in
set_option maxHeartbeats 8000000 in
theorem DrawViewMajority_any {a : Option Addr} {len cap : Nat} {cs : List Int} (w : World) (h : RowIs .u8 w a len cap cs) :
    Calls Tryd.prog 23 #[.slice a len cap] w (DMaj w) := by
  obtain ⟨w0, hw0⟩ : ∃ W, w.alloc (.cells vz 25) = W := ⟨_, rfl⟩
  have h0 := hid (show RowIs .u8 w0 a len cap cs by rw [← hw0]; exact h.allocV _)
  have hZ := hid (show Cs w0 w.heap.size 25 vz by rw [← hw0]; exact Cs.new _ _ _)
  have hB := hid (show Below w.heap.size w w0 by rw [← hw0]; exact below1 _ _)
  have hz := hid (show w.heap.size < w0.heap.size from hZ.out.lt)
  replace hw0 := hid hw0
  clear h
  go_enter Tryd.func23, Tryd.ntmps23
  go_upto_region 1 with (fail)
  rw [hw0.out]
  go_wp2_with fail
  refine (l6Open_any w0 h0.out).mono ?_
  rintro e w1 ⟨rfl, r1, hb1, hz1⟩
  have r1 := hid r1
  have hb1 := hid hb1
  have hgz := hid hz1
  clear h0 hz1
  go_wp2_with fail
  refine (l92View_any _ r1.out (by omega)).mono ?_
  rintro e w2 ⟨n, A, c, zs, rfl, ho, hl, r2, hg⟩
  have hz' := hz.out
  obtain ⟨u, hu⟩ : ∃ u, w2.alloc (.cells #[.int .i64 n, .slice A zs.length c] 25) = u := ⟨_, rfl⟩
  have hZu := hid (show Cs u w.heap.size 25 vz by rw [← hu]; exact (grown_cs (hZ.out.step hb1.out) hg (by intro e; injection e with e; omega)).alloc _)
  have hBu := hid (show Below w.heap.size w u by rw [← hu]; exact ((hB.out.trans (hb1.out.mono (by omega))).grown hg (by have := hb1.out.size; omega) (fun k e => by injection e with e; omega)).alloc (by have := hb1.out.size; have := hg.size; omega) _)
  have hCu := hid (show Cs u w2.heap.size 25 #[.int .i64 n, .slice A zs.length c] by rw [← hu]; exact Cs.new _ _ _)
  have hOu := hid (show OwI u w1.heap.size (.slice A zs.length c) zs by rw [← hu]; exact ho.alloc_ _)
  have hRu := hid (show Rdr u w0.heap.size w0.heap.size 12 by rw [← hu]; exact (r2.le (by omega)).below (below1 _ _) r2.lt)
  have hw12 : w1.heap.size ≤ w2.heap.size := hg.size
  have hgw1 : w0.heap.size < w1.heap.size := by have := hgz.out; omega
  have hxu : w2.heap.size < u.heap.size := hCu.out.lt
  have hgl : w0.heap.size < u.heap.size := by omega
  replace hu := hid hu
  clear ho hg r2 hZ hB hb1 r1
  go_upto_region 3 with (fail)
  rw [hu.out]
  have hD0 := hid (show Dm u (u.alloc (.cells #[] 3)) w0.heap.size w0.heap.size 12 (.slice (some ⟨u.heap.size, 0, none⟩) 0 0) [] from ⟨World.grownBy_alloc u _ _, hRu.out.below (below1 _ _) hgl, OwI.lit0 u rfl⟩)
  go_wp2
  go_loopw [6, 7] (fun o i wr => ∃ (k : Nat) (os : List Int), k ≤ zs.length ∧ i = .int .i64 k ∧ Hid (Dm u wr w0.heap.size w0.heap.size (12 + k) o os) ∧ Hid (os.length ≤ k)) (fun _ i _ => zs.length - (intOf i).toNat)
  case atStart => exact ⟨0, [], by omega, rfl, hD0, hid (by simp)⟩
  case round =>
    obtain ⟨k, os, hk, rfl, hD, hol⟩ := hrel
    clear hD0
    obtain ⟨A2, c2, e0, -⟩ := hD.out.ow.form
    subst e0
    have hol' := hol.out
    have hX := hid (grown_cs hCu.out hD.out.gr (by intro e; injection e with e; omega))
    obtain ⟨x0, x1, -, -⟩ := hX.out.two
    by_cases hlt : k < zs.length
    · have hlti : (k : Int) < (zs.length : Int) := by omega
      go_wp2_with fail
      refine (pick_any 3 wr hD.out.rd (by omega) (by omega) (by omega)).mono ?_
      rintro e w5 ⟨y, rfl, hy0, hy1, r5, q5, -⟩
      have hD5 := hid (hD.out.pick q5 hgl r5)
      clear hD r5 q5 hX x0 x1
      by_cases hy : 0 < y
      · have hyb : y > 0 := hy
        have hX5 := hid (grown_cs hCu.out hD5.out.gr (by intro e; injection e with e; omega))
        have hO5 := hOu.out.pick hD5.out.gr hgw1
        obtain ⟨ae, z, rfl, hz5, hc5⟩ := hO5.rdM.at' hlt
        obtain ⟨x0, x1, -, -⟩ := hX5.out.two
        have hk0 : (0 : Int) ≤ (k : Int) := by omega
        have hD6 := hid (hD5.out.below (below1 w5 (.cells #[.int .i64 z] 3)))
        have hc6 : Hid (Cs (w5.alloc (.cells #[.int .i64 z] 3)) w5.heap.size 3 #[.int .i64 z]) := hid (Cs.new _ _ _)
        have hz6 : u.heap.size ≤ (w5.alloc (.cells #[.int .i64 z] 3)).heap.size := hD6.out.gr.size
        clear hO5 hX5 hz5
        go_wp2_with (at_builtin; refine wpList_app1G rfl (.tmp 23) (.tmp 29) rfl (B := u.heap.size) rfl rfl hc6.out hD6.out.ow hz6 (by omega) ?_; intro v7 w7 ho7 hg7; obtain ⟨Y, hY⟩ : ∃ Y, os ++ [z] = Y := ⟨_, rfl⟩; rw [hY] at ho7; have hYl := hid (show Y.length = os.length + 1 by rw [← hY]; simp); clear hY; obtain ⟨A7, c7, rfl, -⟩ := ho7.form; have hD7 := hid (hD6.out.app hg7 hgl ho7); clear ho7 hg7)
        go_roundw
        case rel => exact ⟨k + 1, _, by omega, by go_num, hid (hD7.out.le (by omega)), hid (by rw [hYl.out]; omega)⟩
        case measure => simp [intOf]; omega
      · have hyb : ¬ y > 0 := hy
        go_wp2
        go_roundw
        case rel => exact ⟨k + 1, _, by omega, by go_num, hid (hD5.out.le (by omega)), hid (by omega)⟩
        case measure => simp [intOf]; omega
    · have hlti : ¬ (k : Int) < (zs.length : Int) := by omega
      go_wp2_with fail
      refine (pick_any 12 wr hD.out.rd (by omega) (by omega) (by omega)).mono ?_
      rintro e w5 ⟨y, rfl, hy0, hy1, r5, q5, -⟩
      have hD5 := hid (hD.out.pick q5 hgl r5)
      clear hD r5 q5 hX x0 x1
      by_cases hy : y = 0
      · have hyb : (y == 0) = true := by simp [hy]
        go_wp2_with fail
        refine (pick_any 9 w5 hD5.out.rd (by omega) (by omega) (by omega)).mono ?_
        rintro e w6 ⟨z, rfl, hz0, hz1, r6, q6, -⟩
        have hD6 := hid (hD5.out.pick q6 hgl r6)
        clear hD5 r6 q6
        have hD7 := hid (hD6.out.below (below1 w6 (.cells #[.int .i64 z] 3)))
        have hc7 : Hid (Cs (w6.alloc (.cells #[.int .i64 z] 3)) w6.heap.size 3 #[.int .i64 z]) := hid (Cs.new _ _ _)
        have hz7 : u.heap.size ≤ (w6.alloc (.cells #[.int .i64 z] 3)).heap.size := hD7.out.gr.size
        clear hD6
        go_upto_region 11 with (at_builtin; refine wpList_app1G rfl (.tmp 34) (.tmp 37) rfl (B := u.heap.size) rfl rfl hc7.out hD7.out.ow hz7 (by omega) ?_; intro v8 w8 ho8 hg8; obtain ⟨Y, hY⟩ : ∃ Y, os ++ [z] = Y := ⟨_, rfl⟩; rw [hY] at ho8; have hYl := hid (show Y.length = os.length + 1 by rw [← hY]; simp); clear hY; obtain ⟨A2, c2, rfl, -⟩ := ho8.form; have hD8 := hid (hD7.out.app hg8 hgl ho8); clear ho8 hg8)
        have hZz := hid (grown_cs hZu.out hD8.out.gr (by intro e; injection e with e; omega))
        have hXz := hid (grown_cs hCu.out hD8.out.gr (by intro e; injection e with e; omega))
        have hOz := hid (hOu.out.pick hD8.out.gr hgw1)
        have hBz := hid (hBu.out.grown hD8.out.gr (by have := hZu.out.lt; omega) (fun k e => by injection e with e; omega))
        obtain ⟨z0, z1, z2, z3⟩ := hZz.out.two
        obtain ⟨x0, x1, -, -⟩ := hXz.out.two
        obtain ⟨f1, f2⟩ := hZz.out.fillV hBz.out (Nat.le_refl _) (.int .i64 n) (.slice A zs.length c)
        replace f2 := hid f2
        have hO9 := hid (OwI.more (hOz.out.fillV hZz.out (.int .i64 n) (.slice A zs.length c)) (show w.heap.size ≤ w1.heap.size by omega))
        have hS9 := hid (OwI.more (hD8.out.ow.fillV hZz.out (.int .i64 n) (.slice A zs.length c)) (show w.heap.size ≤ u.heap.size by have := hZu.out.lt; omega))
        obtain ⟨y0, y1, -, -⟩ := f1.two
        clear f1 hZz hXz hOz hBz hD8
        go_wp2
        exact bodyPost_ret (v := .tuple #[vwV n (.slice A zs.length c), .slice A2 (Y).length c2]) (by simp [results, Tryd.results23, go_sem, y0, y1]) rfl ⟨n, A, c, zs, A2, c2, Y, rfl, hO9.out, hS9.out, hl, by rw [hYl.out]; omega, f2.out⟩
      · have hyb : (y == 0) = false := by simp [hy]
        have hZz := hid (grown_cs hZu.out hD5.out.gr (by intro e; injection e with e; omega))
        have hXz := hid (grown_cs hCu.out hD5.out.gr (by intro e; injection e with e; omega))
        have hOz := hid (hOu.out.pick hD5.out.gr hgw1)
        have hBz := hid (hBu.out.grown hD5.out.gr (by have := hZu.out.lt; omega) (fun k e => by injection e with e; omega))
        obtain ⟨z0, z1, z2, z3⟩ := hZz.out.two
        obtain ⟨x0, x1, -, -⟩ := hXz.out.two
        obtain ⟨f1, f2⟩ := hZz.out.fillV hBz.out (Nat.le_refl _) (.int .i64 n) (.slice A zs.length c)
        replace f2 := hid f2
        have hO9 := hid (OwI.more (hOz.out.fillV hZz.out (.int .i64 n) (.slice A zs.length c)) (show w.heap.size ≤ w1.heap.size by omega))
        have hS9 := hid (OwI.more (hD5.out.ow.fillV hZz.out (.int .i64 n) (.slice A zs.length c)) (show w.heap.size ≤ u.heap.size by have := hZu.out.lt; omega))
        obtain ⟨y0, y1, -, -⟩ := f1.two
        clear f1 hZz hXz hOz hBz hD5
        go_wp2
        exact bodyPost_ret (v := .tuple #[vwV n (.slice A zs.length c), .slice A2 (os).length c2]) (by simp [results, Tryd.results23, go_sem, y0, y1]) rfl ⟨n, A, c, zs, A2, c2, os, rfl, hO9.out, hS9.out, hl, by omega, f2.out⟩
end Go.Proofs.YtppdfgifnmfioaaDoor
