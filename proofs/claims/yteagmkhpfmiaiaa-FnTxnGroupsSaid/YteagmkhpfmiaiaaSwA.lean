/-
  The draw of a state of chapter 31: l92State: up to fifteen values from -1 to 1000 in memory of its own. No condition but a reader with room.
-/
import Derived.Test.YteagmkhpfmiaiaaSoN
import Derived.Test.YteagmkhpfmiaiaaDrawA
import Derived.Deep.RegionHeld3
import Derived.Deep.CutBlock
import Derived.Deep.RegionLaw
import Derived.Deep.DeepCutAuto
namespace Go.Proofs.Yteagmkhpfmiaiaa
open Go.RowKit
set_option linter.unusedVariables false
set_option linter.unusedSimpArgs false

theorem grown_farV {w wr : World} {row : Option Nat} (h : w.grownBy wr row) {p : Addr} (hp : w.heap.size ≤ p.block) (u : Value) : w.grownBy (wr.setCell p u) row :=
  ⟨h.os, h.tape, h.output, by simpa [World.setCell] using h.size, fun i hi hne => (heap_setCell_other wr p i u (by omega)).trans (h.block i hi hne)⟩

theorem Rdr.farV {w : World} {B g P : Nat} (h : Rdr w B g P) {p : Addr} (hp : g < p.block) (u : Value) : Rdr (w.setCell p u) B g P := h.keep fun k hk => heap_setCell_other w p k u (by omega)
/-- what the draws leave: a reader moved on, and memory of their own -/
structure Dg (w wr : World) (B g P : Nat) : Prop where
  gr : w.grownBy wr (some g)
  rd : Rdr wr B g P
section
variable {w wr w' : World} {B g P Q : Nat}

theorem Dg.below (h : Dg w wr B g P) (hl : g < w.heap.size) (hb : Below w.heap.size wr w') : Dg w w' B g P := ⟨grown_below h.gr hb, h.rd.below hb hl⟩

theorem Dg.pick (h : Dg w wr B g P) (hg : wr.grownBy w' (some g)) (hr : Rdr w' B g Q) : Dg w w' B g Q := ⟨grown_set h.gr hg, hr⟩

theorem Dg.le (h : Dg w wr B g P) (hq : P ≤ Q) : Dg w wr B g Q := ⟨h.gr, h.rd.le hq⟩

theorem Dg.far (h : Dg w wr B g P) (hl : g < w.heap.size) {p : Addr} (hp : w.heap.size ≤ p.block) (u : Value) : Dg w (wr.setCell p u) B g P := ⟨grown_farV h.gr hp u, h.rd.farV (by omega) u⟩

theorem Dg.size (h : Dg w wr B g P) : w.heap.size ≤ wr.heap.size := h.gr.size
/-- behind an append to a row of the call's own -/
theorem Dg.own (h : Dg w wr B g P) (hl : g < w.heap.size) {row : Option Nat} (hg : wr.grownBy w' row) (hr : ∀ k, row = some k → w.heap.size ≤ k) : Dg w w' B g P := by
  refine ⟨⟨hg.os.trans h.gr.os, hg.tape.trans h.gr.tape, hg.output.trans h.gr.output, Nat.le_trans h.gr.size hg.size, fun i hi hne => (hg.block i (by have := h.gr.size; omega) (fun e => by have := hr i e.symm; omega)).trans (h.gr.block i hi hne)⟩, h.rd.keep fun k hk => hg.block k (by have := h.rd.lt; omega) (fun e => by have := hr k e.symm; omega)⟩
end

/-- every value of a state is one that the document knows or one beside it -/
def InB (zs : List Int) : Prop := ∀ z ∈ zs, -1 ≤ z ∧ z ≤ 1000

theorem InB.nil : InB [] := by intro z hz; simp at hz

theorem InB.snoc {zs : List Int} (h : InB zs) {z : Int} (h0 : -1 ≤ z) (h1 : z ≤ 1000) : InB (zs ++ [z]) := by
  intro y hy
  rcases List.mem_append.1 hy with hy | hy
  · exact h y hy
  · simp at hy; subst hy; exact ⟨h0, h1⟩

theorem InB.set {zs : List Int} (h : InB zs) (j : Nat) {z : Int} (h0 : -1 ≤ z) (h1 : z ≤ 1000) : InB (zs.set j z) := by
  intro y hy
  rcases List.mem_or_eq_of_mem_set hy with hy | rfl
  · exact h y hy
  · exact ⟨h0, h1⟩

theorem InB.take {zs : List Int} (h : InB zs) (k : Nat) : InB (zs.take k) := fun y hy => h y (List.mem_of_mem_take hy)

theorem OwI.cutK {w : World} {lo n c : Nat} {A : Option Addr} {zs : List Int} (h : OwI w lo (.slice A n c) zs) (hz : zs.length = n) {k : Nat} (hk : k ≤ n) : OwI w lo (.slice A k c) (zs.take k) := by
  have hl : (zs.take k).length = k := by rw [List.length_take]; omega
  have h2 := h.2
  rw [OwI, hl]
  refine ⟨by rw [ints, List.length_map, hl, Nat.mul_one], ?_⟩
  rcases h2 with ⟨e, h0⟩ | ⟨g, cap, cur, e, h3, h4, h5, h6, h7, h8⟩
  · injection e with e1 e2 e3
    subst e1; subst e2; subst e3
    exact .inl ⟨by rw [show k = 0 by omega], by omega⟩
  · injection e with e1 e2 e3
    subst e1; subst e3
    refine .inr ⟨g, _, cur, rfl, h3, h4, by omega, h6, h7, ?_⟩
    rw [ints, List.map_take]
    rw [show List.map (Value.int .i64) zs = ints zs from rfl, ← h8, List.take_take]
    congr 1; omega

/-- a state that was drawn -/
def SPost (B g Q : Nat) (w : World) (e : Ending) (w' : World) : Prop :=
  ∃ (A : Option Addr) (c : Nat) (zs : List Int), e = .returned (.slice A zs.length c) ∧ OwI w' w.heap.size (.slice A zs.length c) zs ∧ zs.length ≤ 15 ∧ InB zs ∧ Dg w w' B g Q

theorem mul_small {x y : Int} (hx0 : 0 ≤ x) (hx1 : x < 30) (hy0 : 0 ≤ y) (hy1 : y < 3) : 0 ≤ x * y ∧ x * y ≤ 58 := by
  have : y = 0 ∨ y = 1 ∨ y = 2 := by omega
  rcases this with rfl | rfl | rfl <;> omega

set_option maxRecDepth 100000 in
set_option maxHeartbeats 8000000 in
theorem l92State_any {B g P : Nat} (w : World) (h : Rdr w B g P) (hP : P ≤ 900000) :
    Calls Try.prog 42 #[.pointer (some ⟨g, 0, none⟩)] w (SPost B g (P + 33) w) := by
  have hgl := h.lt
  have h' := hid h
  clear h
  go_enter Try.func42, Try.ntmps42
  go_wp2
  go_loopw [3, 4] (fun o i wr => ∃ (k : Nat) (zs : List Int), k ≤ 15 ∧ i = .int .i64 k ∧ Hid (OwI wr w.heap.size o zs) ∧ Hid (zs.length = k) ∧ Hid (InB zs) ∧ Hid (Dg w wr B g (P + 2 * k))) (fun _ i _ => 15 - (intOf i).toNat)
  case atStart =>
    exact ⟨0, [], by omega, rfl, hid (OwI.empty_lit w (Nat.le_refl _)), hid rfl, hid InB.nil, hid ⟨World.grownBy_alloc w _ _, h'.out.below ((Below.refl w.heap.size w).alloc (Nat.le_refl _) _) hgl⟩⟩
  case round =>
    obtain ⟨k, zs, hk, rfl, hown, hzl, hin, hD⟩ := hrel
    clear h'
    by_cases hlt : k < 15
    · go_wp2_with fail
      refine (pick_any 30 wr hD.out.rd (by omega) (by omega) (by omega)).mono ?_
      rintro e w1 ⟨x, rfl, hx0, hx1, r1, q1, -⟩
      have hD1 := hid (hD.out.pick q1 r1)
      have ho1 := hid (hown.out.pick q1 hgl)
      clear hD hown r1 q1
      go_wp2_with fail
      refine (pick_any 3 w1 hD1.out.rd (by omega) (by omega) (by omega)).mono ?_
      rintro e w2 ⟨y, rfl, hy0, hy1, r2, q2, -⟩
      have hD2 := hid (hD1.out.pick q2 r2)
      have ho2 := hid (ho1.out.pick q2 hgl)
      clear hD1 ho1 r2 q2
      obtain ⟨p0, p1⟩ := mul_small hx0 hx1 hy0 hy1
      have hw : IntKind.i64.wrap (x * y) = x * y := IntWalk.i64_in _ (by omega)
      go_wp2_with (at_builtin; refine wpList_app1 rfl (.tmp 10) (.tmp 16) rfl w.heap.size (x * y) _ _ rfl rfl ho2.out hD2.out.size (by rw [hzl.out]; omega) ?_; intro v' w3 hown' hbel'; replace hown' := hid hown'; replace hbel' := hid hbel')
      go_roundw
      case rel => exact ⟨k + 1, _, by omega, by go_num, hown', hid (by simp [hzl.out]), hid (hin.out.snoc (by omega) (by omega)), hid ((hD2.out.below hgl hbel'.out).le (by omega))⟩
      case measure => simp [intOf]; omega
    · obtain rfl : k = 15 := by omega
      go_wp2_with fail
      refine (pick_any 20 wr hD.out.rd (by omega) (by omega) (by omega)).mono ?_
      rintro e w1 ⟨x, rfl, hx0, hx1, r1, q1, -⟩
      have hD1 := hid (hD.out.pick q1 r1)
      have ho1 := hid (hown.out.pick q1 hgl)
      clear hD hown r1 q1
      obtain ⟨b, c, rfl, hb0, hb1⟩ := ho1.out.formS hzl.out (by omega)
      rcases (show x = 0 ∨ x = 1 ∨ 2 ≤ x by omega) with rfl | rfl | hx2
      · go_wp2_with fail
        refine (pick_any 15 w1 hD1.out.rd (by omega) (by omega) (by omega)).mono ?_
        rintro e w2 ⟨y, rfl, hy0, hy1, r2, q2, -⟩
        have hD2 := hid (hD1.out.pick q2 r2)
        have ho2 := hid (ho1.out.pick q2 hgl)
        clear hD1 ho1 r2 q2
        obtain ⟨j, rfl⟩ := Int.eq_ofNat_of_zero_le hy0
        have hb3 := hid (below1 w2 (.cells #[.int .i64 (-1), .int .i64 999, .int .i64 1000] 3))
        have hC3 : Hid (Cs (w2.alloc (.cells #[.int .i64 (-1), .int .i64 999, .int .i64 1000] 3)) w2.heap.size 3 #[.int .i64 (-1), .int .i64 999, .int .i64 1000]) := hid (Cs.new _ _ _)
        have hD3 := hid (hD2.out.below hgl (hb3.out.mono hD2.out.size))
        have ho3 := hid (ho2.out.stepS hb3.out)
        have hgw2 := hD2.out.rd.lt
        clear hD2 ho2 hb3
        go_wp2_with fail
        refine (pick_any 3 _ hD3.out.rd (by omega) (by omega) (by omega)).mono ?_
        rintro e w4 ⟨m, rfl, hm0, hm1, r4, q4, -⟩
        have hD4 := hid (hD3.out.pick q4 r4)
        have ho4 := hid (ho3.out.pick q4 hgl)
        obtain ⟨m, rfl⟩ := Int.eq_ofNat_of_zero_le hm0
        obtain ⟨z, hz, hz0, hz1⟩ : ∃ z, w4.cell? ⟨w2.heap.size, m, none⟩ = some (.int .i64 z) ∧ -1 ≤ z ∧ z ≤ 1000 := by
          have e4 : w4.cell? ⟨w2.heap.size, m, none⟩ = _ := (World.cell?_of_block (q4.block w2.heap.size (by simp) (fun e => by injection e with e; omega))).trans (hC3.out.cell m)
          rw [e4]
          have : m = 0 ∨ m = 1 ∨ m = 2 := by omega
          rcases this with rfl | rfl | rfl <;> exact ⟨_, rfl, by omega, by omega⟩
        clear hD3 ho3 hC3 r4 q4
        have j1 : (j : Int) < 15 := by omega
        have m1 : (m : Int) < 3 := by omega
        obtain ⟨a0, a1, a2⟩ := ho4.out.atS hzl.out (j := j) (by omega)
        have ho5 := hid (a2 z)
        have hD5 := hid (hD4.out.far hgl (p := ⟨b, j, none⟩) hb0 (.int .i64 z))
        have hin5 := hid (hin.out.set j hz0 hz1)
        have hl5 := hid (show (zs.set j z).length = 15 by simp [hzl.out])
        clear a2 ho4 hD4
        go_wp2
        go_ret
        refine ⟨some ⟨b, 0, none⟩, c, zs.set j z, by rw [hl5.out]; rfl, by rw [hl5.out]; exact ho5.out, by rw [hl5.out]; omega, hin5.out, hD5.out.le (by omega)⟩
      · go_wp2_with fail
        refine (pick_any 16 w1 hD1.out.rd (by omega) (by omega) (by omega)).mono ?_
        rintro e w2 ⟨y, rfl, hy0, hy1, r2, q2, -⟩
        have hD2 := hid (hD1.out.pick q2 r2)
        have ho2 := hid (ho1.out.pick q2 hgl)
        clear hD1 ho1 r2 q2
        obtain ⟨j, rfl⟩ := Int.eq_ofNat_of_zero_le hy0
        have hj1 : j ≤ 15 := by omega
        have j1 : (j : Int) ≤ 15 := by omega
        have hc15 : Hid (15 ≤ c ∧ c ≤ maxLen) := by
          rcases ho2.out.2 with ⟨_, h0⟩ | ⟨g', cap, cur, e, _, _, h5, h6, _⟩
          · exact absurd h0 (by rw [hzl.out]; omega)
          · injection e with _ _ e3; subst e3; exact hid ⟨by have := hzl.out; omega, h6⟩
        obtain ⟨c1, c2⟩ := hc15.out
        have c3 : (j : Int) ≤ (c : Int) := by omega
        have hl5 := hid (show (zs.take j).length = j by rw [List.length_take, hzl.out]; omega)
        have ho5 := hid (ho2.out.cutK hzl.out hj1)
        have hin5 := hid (hin.out.take j)
        unfold maxLen at c2
        go_wp2
        go_ret
        refine ⟨some ⟨b, 0, none⟩, c, zs.take j, by rw [hl5.out]; rfl, by rw [hl5.out]; exact ho5.out, by rw [hl5.out]; omega, hin5.out, hD2.out.le (by omega)⟩
      · have hx3 : (x == 0) = false := by simp; omega
        have hx4 : (x == 1) = false := by simp; omega
        go_wp2
        go_ret
        refine ⟨some ⟨b, 0, none⟩, c, zs, by rw [hzl.out]; rfl, by rw [hzl.out]; exact ho1.out, by rw [hzl.out]; omega, hin.out, hD1.out.le (by omega)⟩
end Go.Proofs.Yteagmkhpfmiaiaa
