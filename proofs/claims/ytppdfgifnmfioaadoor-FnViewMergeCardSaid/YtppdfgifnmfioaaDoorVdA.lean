/-
  The draw of a view: l92View: a short view in memory of its own. No condition but a reader with room.
-/
import Derived.Test.YtppdfgifnmfioaaDoorVwE
import Derived.Test.YtppdfgifnmfioaaDoorDrawA
import Derived.Deep.RegionHeld3
import Derived.Deep.CutBlock
import Derived.Deep.RegionLaw
import Derived.Deep.DeepCutAuto
namespace Go.Proofs.YtppdfgifnmfioaaDoor
open Go.RowKit
set_option linter.unusedVariables false
set_option linter.unusedSimpArgs false

theorem grown_farV {w wr : World} {row : Option Nat} (h : w.grownBy wr row) {p : Addr} (hp : w.heap.size ≤ p.block) (u : Value) : w.grownBy (wr.setCell p u) row :=
  ⟨h.os, h.tape, h.output, by simpa [World.setCell] using h.size, fun i hi hne => (heap_setCell_other wr p i u (by omega)).trans (h.block i hi hne)⟩

theorem Rdr.farV {w : World} {B g P : Nat} (h : Rdr w B g P) {p : Addr} (hp : g < p.block) (u : Value) : Rdr (w.setCell p u) B g P := h.keep fun k hk => heap_setCell_other w p k u (by omega)

theorem kp_pickV {w w' : World} {g : Nat} (hg : w.grownBy w' (some g)) : Kp (fun b => b = g) w w' := (Kp.refl (fun b => b = g) _).grown hg (fun k e => .inr (by injection e with e; exact e.symm))

/-- the view that is being drawn: its box, its members, the result's box, the reader -/
structure Dv (w wr : World) (B g P xb : Nat) (n : Int) (v : Value) (zs : List Int) : Prop where
  cs : Cs wr xb 25 #[.int .i64 n, v]
  ow : OwI wr (w.heap.size + 1) v zs
  rs : Cs wr w.heap.size 25 vz
  lo : w.heap.size < xb
  gr : w.grownBy wr (some g)
  rd : Rdr wr B g P
section
variable {w wr w' : World} {B g P Q xb : Nat} {n : Int} {v v' : Value} {zs zs' : List Int}

theorem Dv.below (h : Dv w wr B g P xb n v zs) (hb : Below wr.heap.size wr w') : Dv w w' B g P xb n v zs :=
  ⟨h.cs.step hb, own_of_block h.ow fun k hk => hb.block k (h.ow.lt k hk).2, h.rs.step hb, h.lo, grown_below h.gr (hb.mono h.gr.size), h.rd.below hb h.rd.lt⟩

theorem Dv.pick (h : Dv w wr B g P xb n v zs) (hg : wr.grownBy w' (some g)) (hl : g < w.heap.size) (hr : Rdr w' B g Q) : Dv w w' B g Q xb n v zs := by
  have hk := kp_pickV hg
  have := h.lo
  exact ⟨h.cs.kp hk (by omega), h.ow.pick hg (by omega), h.rs.kp hk (by omega), h.lo, grown_set h.gr hg, hr⟩

theorem Dv.le (h : Dv w wr B g P xb n v zs) (hq : P ≤ Q) : Dv w wr B g Q xb n v zs := ⟨h.cs, h.ow, h.rs, h.lo, h.gr, h.rd.le hq⟩
/-- the members stored -/
theorem Dv.put (h : Dv w wr B g P xb n v zs) (hl : g < w.heap.size) (ho : OwI wr (w.heap.size + 1) v' zs') : Dv w (wr.setCell ⟨xb, 1, none⟩ v') B g P xb n v' zs' := by
  have hlo := h.lo
  have hne := cs_type h.cs ho (by decide)
  exact ⟨h.cs.set 1 v', own_of_block ho fun k hk => Below.heap_setCell wr ⟨xb, 1, none⟩ v' k (fun e => hne (by rw [hk, e])), h.rs.far (p := ⟨xb, 1, none⟩) (by simp; omega) v', hlo, grown_farV h.gr (Nat.le_of_lt hlo) _, h.rd.farV (p := ⟨xb, 1, none⟩) (by simp; omega) v'⟩
/-- the number stored -/
theorem Dv.putN (h : Dv w wr B g P xb n v zs) (hl : g < w.heap.size) (y : Int) : Dv w (wr.setCell ⟨xb, 0, none⟩ (.int .i64 y)) B g P xb y v zs := by
  have hlo := h.lo
  have hne := cs_type h.cs h.ow (by decide)
  exact ⟨h.cs.set 0 (.int .i64 y), own_of_block h.ow fun k hk => Below.heap_setCell wr ⟨xb, 0, none⟩ _ k (fun e => hne (by rw [hk, e])), h.rs.far (p := ⟨xb, 0, none⟩) (by simp; omega) _, hlo, grown_farV h.gr (Nat.le_of_lt hlo) _, h.rd.farV (p := ⟨xb, 0, none⟩) (by simp; omega) _⟩
/-- behind an append to the members: what is appended to lies aside -/
theorem Dv.keep (h : Dv w wr B g P xb n v zs) {row : Option Nat} (hg : wr.grownBy w' row) (hr : ∀ k, row = some k → v.ownBlock = some k) (hl : g < w.heap.size) : Cs w' xb 25 #[.int .i64 n, v] ∧ Cs w' w.heap.size 25 vz ∧ w.grownBy w' (some g) ∧ Rdr w' B g P := by
  have hlo := h.lo
  have hne := cs_type h.cs h.ow (by decide)
  refine ⟨grown_cs h.cs hg (fun e => hne (hr _ e)), grown_cs h.rs hg (fun e => by have := (h.ow.lt _ (hr _ e)).1; omega), ?_, h.rd.keep fun k hk => hg.block k (by have := h.rd.lt; omega) (fun e => by have := (h.ow.lt _ (hr _ e.symm)).1; omega)⟩
  exact ⟨hg.os.trans h.gr.os, hg.tape.trans h.gr.tape, hg.output.trans h.gr.output, Nat.le_trans h.gr.size hg.size, fun i hi hne' => (hg.block i (by have := h.gr.size; omega) (fun e => by have := (h.ow.lt _ (hr _ e.symm)).1; omega)).trans (h.gr.block i hi hne')⟩

theorem Dv.app (h : Dv w wr B g P xb n v zs) {row : Option Nat} (hg : wr.grownBy w' row) (hr : ∀ k, row = some k → v.ownBlock = some k) (hl : g < w.heap.size) (ho : OwI w' (w.heap.size + 1) v' zs') : Dv w (w'.setCell ⟨xb, 1, none⟩ v') B g P xb n v' zs' := by
  obtain ⟨h1, h2, h3, h4⟩ := h.keep hg hr hl
  have hlo := h.lo
  have hne := cs_type h1 ho (by decide)
  exact ⟨h1.set 1 v', own_of_block ho fun k hk => Below.heap_setCell w' ⟨xb, 1, none⟩ v' k (fun e => hne (by rw [hk, e])), h2.far (p := ⟨xb, 1, none⟩) (by simp; omega) v', hlo, grown_farV h3 (Nat.le_of_lt hlo) _, h4.farV (p := ⟨xb, 1, none⟩) (by simp; omega) v'⟩
end
/-- behind the return by the result's box -/
theorem Dv.ret {w wr : World} {B g P xb : Nat} {n : Int} {v : Value} {zs : List Int} (h : Dv w wr B g P xb n v zs) (hl : g < w.heap.size) :
    Cs ((wr.setCell ⟨w.heap.size, 0, none⟩ (.int .i64 n)).setCell ⟨w.heap.size, 1, none⟩ v) w.heap.size 25 #[.int .i64 n, v] ∧ OwI ((wr.setCell ⟨w.heap.size, 0, none⟩ (.int .i64 n)).setCell ⟨w.heap.size, 1, none⟩ v) w.heap.size v zs ∧
    Rdr ((wr.setCell ⟨w.heap.size, 0, none⟩ (.int .i64 n)).setCell ⟨w.heap.size, 1, none⟩ v) B g P ∧ w.grownBy ((wr.setCell ⟨w.heap.size, 0, none⟩ (.int .i64 n)).setCell ⟨w.heap.size, 1, none⟩ v) (some g) :=
  ⟨(h.rs.set 0 _).set 1 _, (h.ow.fillV h.rs (.int .i64 n) v).more (Nat.le_succ _), (h.rd.farV (p := ⟨w.heap.size, 0, none⟩) hl _).farV (p := ⟨w.heap.size, 1, none⟩) hl _, grown_farV (grown_farV h.gr (p := ⟨w.heap.size, 0, none⟩) (Nat.le_refl _) _) (p := ⟨w.heap.size, 1, none⟩) (Nat.le_refl _) _⟩
/-- a view that was drawn -/
def LPost (B g Q : Nat) (w : World) (e : Ending) (w' : World) : Prop :=
  ∃ (n : Int) (A : Option Addr) (c : Nat) (zs : List Int), e = .returned (vwV n (.slice A zs.length c)) ∧ OwI w' w.heap.size (.slice A zs.length c) zs ∧ zs.length ≤ 9 ∧ Rdr w' B g Q ∧ w.grownBy w' (some g)
/-- one append of one int, with what grew -/
theorem wpList_app1G {w : World} {ops : Array Oper} {rest : List Oper} {o : Oper} {a : Act} {Q : Exit → Act → World → Prop} (hgd : o.guard = none) (s x : Operand)
    (ho : o.op = .call { callee := .builtin .append, args := #[s, x], argTypes := #[23, 23] })
    {B b : Nat} {v : Value} {zs : List Int} {z : Int} (hs : a.eval s = v) (hx : a.eval x = .slice (some ⟨b, 0, none⟩) 1 1) (hc : Cs w b 3 #[.int .i64 z]) (hown : OwI w B v zs) (hB : B ≤ w.heap.size) (hn : zs.length + 1 < 1099511627776)
    (h : ∀ v' w', OwI w' B v' (zs ++ [z]) → w.grownBy w' v.ownBlock → wpList Tryd.prog ops Q rest (a.put o.dst v') w') : wpList Tryd.prog ops Q (o :: rest) a w :=
  wpList_appH2 hgd s x ho hs hx hown (RdI.of_cs hc) hB hn fun v' w' h1 h2 _ => h v' w' h1 h2

set_option maxRecDepth 100000 in
set_option maxHeartbeats 8000000 in
theorem l92View_any {B g P : Nat} (w : World) (h : Rdr w B g P) (hP : P ≤ 900000) :
    Calls Tryd.prog 35 #[.pointer (some ⟨g, 0, none⟩)] w (LPost B g (P + 12) w) := by
  have hgl := h.lt
  obtain ⟨w0, hw0⟩ : ∃ W, w.alloc (.cells vz 25) = W := ⟨_, rfl⟩
  have h0 := hid (show Rdr w0 B g P by rw [← hw0]; exact h.below (below1 _ _) hgl)
  have hR0 := hid (show Cs w0 w.heap.size 25 vz by rw [← hw0]; exact Cs.new _ _ _)
  have hG0 := hid (show w.grownBy w0 (some g) by rw [← hw0]; exact World.grownBy_alloc w _ _)
  have hz0 := hid (show w0.heap.size = w.heap.size + 1 by rw [← hw0]; simp)
  replace hw0 := hid hw0
  clear h
  go_enter Tryd.func35, Tryd.ntmps35
  go_upto_region 1 with (fail)
  rw [hw0.out]
  go_wp2_with fail
  refine (pick_any 20 w0 h0.out (by omega) (by omega) (by omega)).mono ?_
  rintro e w1 ⟨n, rfl, hn0, hn1, r1, q1, s1⟩
  obtain ⟨W, hW⟩ : ∃ W, (w1.alloc (.cells #[] 3)).alloc (.cells #[.int .i64 n, .slice (some ⟨w1.heap.size, 0, none⟩) 0 0] 25) = W := ⟨_, rfl⟩
  have hs1 := hid (show w1.heap.size = w.heap.size + 1 by rw [s1, hz0.out])
  have hs1' := hs1.out
  have hz0' := hz0.out
  have hbW : Below w1.heap.size w1 W := by rw [← hW]; exact below2 _ _ _
  have hD := hid (show Dv w W B g (P + 1) (w1.heap.size + 1) n (.slice (some ⟨w1.heap.size, 0, none⟩) 0 0) [] from
    ⟨by rw [← hW]; exact Cs.new' _ _ _ (by simp), by rw [← hW]; exact ((OwI.lit0 w1 rfl).alloc_ _).more (by omega), (hR0.out.kp (kp_pickV q1) (by omega)).step hbW, by omega, grown_below (grown_set hG0.out q1) (hbW.mono (by omega)), r1.below hbW r1.lt⟩)
  replace hW := hid hW
  clear h0 hR0 hG0 r1 q1 s1 hbW hn0 hn1 hs1' hz0'
  go_upto_region 2 with (fail)
  rw [hW.out]
  obtain ⟨xb, hxb⟩ : ∃ b, w1.heap.size + 1 = b := ⟨_, rfl⟩
  rw [hxb] at hD
  try rw [hxb]
  clear hW
  go_wp2
  go_loopw [4] (fun i wr => ∃ (k : Nat) (v : Value) (zs : List Int), k ≤ 8 ∧ i = .int .i64 k ∧ Hid (Dv w wr B g (P + 1 + k) xb n v zs) ∧ Hid (zs.length ≤ k)) (fun i _ => 8 - (intOf i).toNat)
  case atStart => exact ⟨0, _, [], by omega, rfl, hid (by simpa using hD.out), hid (by simp)⟩
  case round =>
    obtain ⟨k, v, zs, hk, rfl, hDr, hzl⟩ := hrel
    have hzl' := hzl.out
    clear hD
    by_cases hlt : k < 8
    · go_wp2_with fail
      refine (pick_any 2 wr hDr.out.rd (by omega) (by omega) (by omega)).mono ?_
      rintro e w5 ⟨y, rfl, hy0, hy1, r5, q5, -⟩
      have hD5 := hid (hDr.out.pick q5 hgl r5)
      clear hDr r5 q5
      by_cases hy : y = 0
      · have hyb : (y == 0) = true := by simp [hy]
        obtain ⟨d0, d1, d2, d3⟩ := hD5.out.cs.two
        have hD6 := hid (hD5.out.below (below1 w5 (.cells #[.int .i64 (k : Int)] 3)))
        have hc6 : Hid (Cs (w5.alloc (.cells #[.int .i64 (k : Int)] 3)) w5.heap.size 3 #[.int .i64 (k : Int)]) := hid (Cs.new _ _ _)
        have hz6 : w.heap.size + 1 ≤ (w5.alloc (.cells #[.int .i64 (k : Int)] 3)).heap.size := by have := hD6.out.lo; have := hD6.out.cs.lt; omega
        go_wp2_with (at_builtin; refine wpList_app1G rfl (.tmp 17) (.tmp 19) rfl (B := w.heap.size + 1) rfl rfl hc6.out hD6.out.ow hz6 (by omega) ?_; intro v7 w7 ho7 hg7; obtain ⟨Y, hY⟩ : ∃ Y, zs ++ [(k : Int)] = Y := ⟨_, rfl⟩; rw [hY] at ho7; have hYl := hid (show Y.length = zs.length + 1 by rw [← hY]; simp); clear hY; obtain ⟨A7, c7, rfl, -⟩ := ho7.form; have ho7' := hid ho7; have hk7 := hid (hD6.out.keep hg7 (fun k e => e) hgl); have hD7 := hid (hD6.out.app hg7 (fun k e => e) hgl ho7); obtain ⟨e0, e1, e2, e3⟩ := hk7.out.1.two; clear ho7 hg7)
        go_roundw
        case rel => exact ⟨k + 1, _, _, by omega, by go_num, hid (hD7.out.le (by omega)), hid (by rw [hYl.out]; omega)⟩
        case measure => simp [intOf]; omega
      · have hyb : (y == 0) = false := by simp [hy]
        go_wp2
        go_roundw
        case rel => exact ⟨k + 1, _, _, by omega, by go_num, hid (hD5.out.le (by omega)), hid (by omega)⟩
        case measure => simp [intOf]; omega
    · have hk8 : ¬ ((k : Int) < 8) := by omega
      obtain rfl : k = 8 := by omega
      go_wp2_with fail
      refine (pick_any 16 wr hDr.out.rd (by omega) (by omega) (by omega)).mono ?_
      rintro e w5 ⟨y, rfl, hy0, hy1, r5, q5, -⟩
      have hD5 := hid (hDr.out.pick q5 hgl r5)
      clear hDr r5 q5
      obtain ⟨A0, c0, e0, -⟩ := hD5.out.ow.form
      subst e0
      by_cases hy : y = 0
      · have hyb : (y == 0) = true := by simp [hy]
        have hD6 := hid (hD5.out.below (below1 w5 (.cells #[.int .i64 (-1), .int .i64 98, .int .i64 99, .int .i64 100] 3)))
        have hC6 : Hid (Cs (w5.alloc (.cells #[.int .i64 (-1), .int .i64 98, .int .i64 99, .int .i64 100] 3)) w5.heap.size 3 #[.int .i64 (-1), .int .i64 98, .int .i64 99, .int .i64 100]) := hid (Cs.new _ _ _)
        have hgw5 : g < w5.heap.size := hD5.out.rd.lt
        clear hD5
        go_wp2_with fail
        refine (pick_any 4 _ hD6.out.rd (by omega) (by omega) (by omega)).mono ?_
        rintro e w8 ⟨j, rfl, hj0, hj1, r8, q8, -⟩
        have hD8 := hid (hD6.out.pick q8 hgl r8)
        have hC8 := hid (hC6.out.kp (kp_pickV q8) (by omega))
        obtain ⟨j, rfl⟩ := Int.eq_ofNat_of_zero_le hj0
        obtain ⟨z, hz⟩ : ∃ z, w8.cell? ⟨w5.heap.size, j, none⟩ = some (.int .i64 z) := by
          rw [hC8.out.cell]
          have : j = 0 ∨ j = 1 ∨ j = 2 ∨ j = 3 := by omega
          rcases this with rfl | rfl | rfl | rfl <;> exact ⟨_, rfl⟩
        have j0 : (0 : Int) ≤ (j : Int) := by omega
        have j1 : (j : Int) < 4 := by omega
        obtain ⟨d0, d1, d2, d3⟩ := hD8.out.cs.two
        have hD9 := hid (hD8.out.putN hgl z)
        clear hD6 hC6 r8 q8 hC8 hD8
        obtain ⟨x0, x1, -, -⟩ := hD9.out.cs.two
        obtain ⟨z0, z1, z2, z3⟩ := hD9.out.rs.two
        obtain ⟨f1, f2, f3, f4⟩ := hD9.out.ret hgl
        replace f2 := hid f2
        replace f3 := hid (f3.le (show _ ≤ P + 12 by omega))
        replace f4 := hid f4
        obtain ⟨y0, y1, -, -⟩ := f1.two
        clear f1 hD9
        go_wp2
        refine bodyPost_ret (v := vwV z (.slice A0 zs.length c0)) (by simp [results, Tryd.results35, go_sem, y0, y1]) rfl ?_
        exact ⟨_, A0, c0, _, rfl, f2.out, by omega, f3.out, f4.out⟩
      · have hyb : (y == 0) = false := by simp [hy]
        by_cases hy1 : y = 1
        · have hyc : (y == 1) = true := by simp [hy1]
          obtain ⟨d0, d1, d2, d3⟩ := hD5.out.cs.two
          have hDd := hid (hD5.out.below (Below.refl _ w5).drew)
          have hgw5 : g < w5.heap.size := hD5.out.rd.lt
          go_wp2_with fail
          go_region_law (first | (go_simp; go_at_call 36; (with_reducible refine (pick_any 10 _ hDd.out.rd (by omega) (by omega) (by omega)).mono ?_); rintro e w6 ⟨x, rfl, hx0, hx1, r6, q6, -⟩; have hD6 := hid (hDd.out.pick q6 hgl r6); have hw2 : IntKind.i64.wrap (x - 1) = x - 1 := IntWalk.i64_in _ (by omega); obtain ⟨s0, s1, s2, s3⟩ := hD6.out.cs.two; have hD7 := hid (hD6.out.below (below1 w6 (.cells #[.int .i64 (x - 1)] 3))); obtain ⟨m0, m1, m2, m3⟩ := hD7.out.cs.two; have hz7 : w.heap.size + 1 ≤ (w6.alloc (.cells #[.int .i64 (x - 1)] 3)).heap.size := (by have := hD7.out.lo; have := hD7.out.cs.lt; omega); have hn7 : Hid (zs.length + 1 < 1099511627776) := hid (by omega); clear r6 q6) | (refine step_appV rfl (.tmp 35) (.tmp 39) rfl (B := w.heap.size + 1) (v := .slice A0 zs.length c0) (zs := zs) (ys := [x - 1]) (m := 1) rfl rfl hD7.out.ow ⟨_, RdI.of_cs (Cs.new w6 _ _)⟩ hz7 hn7.out ?_; intro v8 w8 ho8 hg8 hv8; obtain ⟨Y, hY⟩ : ∃ Y, zs ++ [x - 1] = Y := ⟨_, rfl⟩; rw [hY] at ho8; have hYl := hid (show Y.length = zs.length + 1 by rw [← hY]; simp); clear hY; obtain ⟨A, c, rfl, -⟩ := ho8.form; have ho8' := hid ho8; have hk8 := hid (hD7.out.keep hg8 (fun k e => e) hgl); have hD8 := hid (hD7.out.app hg8 (fun k e => e) hgl ho8); obtain ⟨e0, e1, e2, e3⟩ := hk8.out.1.two; clear ho8 hg8 hv8))
          all_goals
            obtain ⟨x0, x1, -, -⟩ := hD8.out.cs.two
            obtain ⟨z0, z1, z2, z3⟩ := hD8.out.rs.two
            obtain ⟨f1, f2, f3, f4⟩ := hD8.out.ret hgl
            replace f2 := hid f2
            replace f3 := hid (f3.le (show _ ≤ P + 12 by omega))
            replace f4 := hid f4
            obtain ⟨y0, y1, -, -⟩ := f1.two
            clear f1 hD8 hk8 ho8' hD7 hD6 hDd hD5 hz7 hn7
            go_wp2
            refine bodyPost_ret (v := vwV n (.slice A Y.length c)) (by simp [results, Tryd.results35, go_sem, y0, y1]) rfl ?_
            exact ⟨_, A, c, _, rfl, f2.out, by rw [hYl.out]; omega, f3.out, f4.out⟩
        · have hyc : (y == 1) = false := by simp [hy1]
          obtain ⟨x0, x1, -, -⟩ := hD5.out.cs.two
          obtain ⟨z0, z1, z2, z3⟩ := hD5.out.rs.two
          obtain ⟨f1, f2, f3, f4⟩ := hD5.out.ret hgl
          replace f2 := hid f2
          replace f3 := hid (f3.le (show _ ≤ P + 12 by omega))
          replace f4 := hid f4
          obtain ⟨y0, y1, -, -⟩ := f1.two
          clear f1 hD5
          go_wp2
          refine bodyPost_ret (v := vwV n (.slice A0 zs.length c0)) (by simp [results, Tryd.results35, go_sem, y0, y1]) rfl ?_
          exact ⟨_, A0, c0, _, rfl, f2.out, by omega, f3.out, f4.out⟩
end Go.Proofs.YtppdfgifnmfioaaDoor
