/-
  Contract of the model's ViewSplit. No condition but lengths below 2^40.
-/
import Derived.Test.YtppdfgifnmfioaaDoorVwE
import Derived.Deep.RegionHeld3
namespace Go.Proofs.YtppdfgifnmfioaaDoor
open Go.RowKit
set_option linter.unusedVariables false
set_option linter.unusedSimpArgs false

theorem vwR_true {n on : Int} {zs oz : List Int} (h : vwR n zs = ((on, oz), true)) : vwB n zs = true ∧ on = n ∧ oz = zs := by
  unfold vwR at h
  split at h
  · rename_i hv
    injection h with h _
    injection h with h1 h2
    exact ⟨hv, h1.symm, h2.symm⟩
  · simp [vr0] at h

theorem vwR_false {n on : Int} {zs oz : List Int} (h : vwR n zs = ((on, oz), false)) : vwB n zs = false := by
  unfold vwR at h
  split at h
  · simp at h
  · rename_i hv
    simpa using hv
/-- two views that a call makes: the first one's block lies ahead of the second one's -/
def SPost (r : (Int × List Int) × (Int × List Int) × Bool) (w : World) (e : Ending) (w' : World) : Prop :=
  ∃ (A : Option Addr) (c : Nat) (A2 : Option Addr) (c2 mid : Nat), e = .returned (.tuple #[vwV r.1.1 (.slice A r.1.2.length c), vwV r.2.1.1 (.slice A2 r.2.1.2.length c2), .bool r.2.2]) ∧
    Ow w' w.heap.size mid (.slice A r.1.2.length c) r.1.2 ∧ OwI w' mid (.slice A2 r.2.1.2.length c2) r.2.1.2 ∧ w.heap.size ≤ mid ∧ mid ≤ w'.heap.size ∧ Below w.heap.size w w'
/-- the three boxes of a call that splits a view -/
structure ThreeV (w W : World) (n : Int) (v : Value) : Prop where
  b : Below w.heap.size w W
  a : Cs W w.heap.size 25 #[.int .i64 n, v]
  y : Cs W (w.heap.size + 1) 25 vz
  z : Cs W (w.heap.size + 1 + 1) 25 vz
  lt : w.heap.size + 1 + 1 < W.heap.size

theorem ThreeV.new (w : World) (n : Int) (v : Value) : ThreeV w (((w.alloc (.cells #[.int .i64 n, v] 25)).alloc (.cells vz 25)).alloc (.cells vz 25)) n v :=
  ⟨below3 w _ _ _, ((Cs.new w _ _).alloc _).alloc _, (Cs.new' _ _ _ (by simp)).alloc _, Cs.new' _ _ _ (by simp), by simp⟩

theorem ThreeV.stepB {w W W' : World} {n : Int} {v : Value} {B : Nat} (h : ThreeV w W n v) (hb : Below B W W') (hB : w.heap.size + 1 + 1 < B) : ThreeV w W' n v :=
  ⟨h.b.trans (hb.mono (by omega)), h.a.below hb (by omega), h.y.below hb (by omega), h.z.below hb hB, Nat.lt_of_lt_of_le h.lt hb.size⟩

theorem ThreeV.step {w W W' : World} {n : Int} {v : Value} (h : ThreeV w W n v) (hb : Below W.heap.size W W') : ThreeV w W' n v := h.stepB hb h.lt
/-- behind both results' filling -/
theorem ThreeV.fill {w W : World} {n : Int} {v : Value} (h : ThreeV w W n v) (u0 u1 x0 x1 : Value) :
    Cs ((((W.setCell ⟨w.heap.size + 1, 0, none⟩ u0).setCell ⟨w.heap.size + 1, 1, none⟩ u1).setCell ⟨w.heap.size + 1 + 1, 0, none⟩ x0).setCell ⟨w.heap.size + 1 + 1, 1, none⟩ x1) (w.heap.size + 1) 25 #[u0, u1] ∧
    Cs ((((W.setCell ⟨w.heap.size + 1, 0, none⟩ u0).setCell ⟨w.heap.size + 1, 1, none⟩ u1).setCell ⟨w.heap.size + 1 + 1, 0, none⟩ x0).setCell ⟨w.heap.size + 1 + 1, 1, none⟩ x1) (w.heap.size + 1 + 1) 25 #[x0, x1] ∧
    Below w.heap.size w ((((W.setCell ⟨w.heap.size + 1, 0, none⟩ u0).setCell ⟨w.heap.size + 1, 1, none⟩ u1).setCell ⟨w.heap.size + 1 + 1, 0, none⟩ x0).setCell ⟨w.heap.size + 1 + 1, 1, none⟩ x1) := by
  obtain ⟨h1, h2⟩ := h.y.fillV h.b (by omega) u0 u1
  have h3 : Cs ((W.setCell ⟨w.heap.size + 1, 0, none⟩ u0).setCell ⟨w.heap.size + 1, 1, none⟩ u1) (w.heap.size + 1 + 1) 25 vz := (h.z.far (p := ⟨w.heap.size + 1, 0, none⟩) (by simp) u0).far (p := ⟨w.heap.size + 1, 1, none⟩) (by simp) u1
  obtain ⟨h4, h5⟩ := h3.fillV h2 (by omega) x0 x1
  exact ⟨(h1.far (p := ⟨w.heap.size + 1 + 1, 0, none⟩) (by simp) x0).far (p := ⟨w.heap.size + 1 + 1, 1, none⟩) (by simp) x1, h4, h5⟩

theorem OwI.fill2V {W : World} {B b b2 : Nat} {v : Value} {zs : List Int} {a0 a1 c0 c1 : Value} (h : OwI W B v zs) (hc : Cs W b 25 #[a0, a1]) (hc2 : Cs W b2 25 #[c0, c1]) (u0 u1 x0 x1 : Value) :
    OwI ((((W.setCell ⟨b, 0, none⟩ u0).setCell ⟨b, 1, none⟩ u1).setCell ⟨b2, 0, none⟩ x0).setCell ⟨b2, 1, none⟩ x1) B v zs := by
  have h1 := cs_type hc h (by decide)
  have h2 := cs_type hc2 h (by decide)
  exact own_of_block h fun g hg => (Below.heap_setCell _ ⟨b2, 1, none⟩ x1 g (fun e => h2 (by rw [hg, e]))).trans ((Below.heap_setCell _ ⟨b2, 0, none⟩ x0 g (fun e => h2 (by rw [hg, e]))).trans ((Below.heap_setCell _ ⟨b, 1, none⟩ u1 g (fun e => h1 (by rw [hg, e]))).trans (Below.heap_setCell W ⟨b, 0, none⟩ u0 g (fun e => h1 (by rw [hg, e])))))
/-- one append of one int, and what else grew -/
theorem wpList_app1K {w : World} {ops : Array Oper} {rest : List Oper} {o : Oper} {a : Act} {Q : Exit → Act → World → Prop} (hgd : o.guard = none) (s x : Operand)
    (ho : o.op = .call { callee := .builtin .append, args := #[s, x], argTypes := #[23, 23] })
    {B b : Nat} {v : Value} {zs : List Int} {z : Int} (hs : a.eval s = v) (hx : a.eval x = .slice (some ⟨b, 0, none⟩) 1 1) (hc : Cs w b 3 #[.int .i64 z]) (hown : OwI w B v zs) (hB : B ≤ w.heap.size) (hn : zs.length + 1 < 1099511627776)
    (h : ∀ v' w', OwI w' B v' (zs ++ [z]) → w.grownBy w' v.ownBlock → (v'.ownBlock = v.ownBlock ∨ v'.ownBlock = some w.heap.size) → wpList Tryd.prog ops Q rest (a.put o.dst v') w') : wpList Tryd.prog ops Q (o :: rest) a w :=
  wpList_appH2 hgd s x ho hs hx hown (RdI.of_cs hc) hB hn h
/-- two owned lists, their blocks apart -/
structure Pr (w : World) (B : Nat) (u v : Value) (xs ys : List Int) : Prop where
  a : OwI w B u xs
  b : OwI w B v ys
  ap : ∀ g, u.ownBlock = some g → v.ownBlock ≠ some g

theorem Pr.swap {w : World} {B : Nat} {u v : Value} {xs ys : List Int} (h : Pr w B u v xs ys) : Pr w B v u ys xs := ⟨h.b, h.a, fun g h1 h2 => h.ap g h2 h1⟩

theorem Pr.grow {w w' : World} {B : Nat} {u v u' : Value} {xs ys xs' : List Int} (h : Pr w B u v xs ys) (ho : OwI w' B u' xs') (hg : w.grownBy w' u.ownBlock) (hk : u'.ownBlock = u.ownBlock ∨ u'.ownBlock = some w.heap.size) : Pr w' B u' v xs' ys :=
  ⟨ho, own_of_block h.b fun g hgv => hg.block g (h.b.lt g hgv).2 (fun e => h.ap g e.symm hgv), fun g h1 h2 => by
    rcases hk with hk | hk
    · rw [hk] at h1; exact h.ap g h1 h2
    · rw [hk] at h1
      injection h1 with h1
      have := (h.b.lt g h2).2
      omega⟩

theorem Pr.below {w w' : World} {B : Nat} {u v : Value} {xs ys : List Int} (h : Pr w B u v xs ys) (hb : Below w.heap.size w w') : Pr w' B u v xs ys :=
  ⟨own_of_block h.a fun g hg => hb.block g (h.a.lt g hg).2, own_of_block h.b fun g hg => hb.block g (h.b.lt g hg).2, h.ap⟩

set_option maxHeartbeats 16000000 in
theorem ViewSplit_spec {m c : Nat} {A : Option Addr} {zs : List Int} (n x : Int) (w : World) (hr : RdI w w.heap.size A m zs) (hm : m < 2097152) :
    Calls Tryd.prog 28 #[vwV n (.slice A m c), .int .i64 x] w (SPost (splitR n zs x) w) := by
  obtain ⟨W0, hW0⟩ : ∃ W, (((w.alloc (.cells #[.int .i64 n, .slice A m c] 25)).alloc (.cells vz 25)).alloc (.cells vz 25)) = W := ⟨_, rfl⟩
  have hT0 : ThreeV w W0 n (.slice A m c) := by rw [← hW0]; exact ThreeV.new w _ _
  obtain ⟨ob, hob⟩ : ∃ b, W0.heap.size = b := ⟨_, rfl⟩
  have hlo : w.heap.size + 3 = ob := by rw [← hob, ← hW0]; simp
  obtain ⟨W, hW⟩ : ∃ W, (W0.alloc (.cells #[] 3)).alloc (.cells #[] 3) = W := ⟨_, rfl⟩
  have hT := hid (show ThreeV w W n (.slice A m c) by rw [← hW]; exact hT0.step (below2 _ _ _))
  have hP := hid (show Pr W ob (.slice (some ⟨ob, 0, none⟩) 0 0) (.slice (some ⟨ob + 1, 0, none⟩) 0 0) [] [] from
    ⟨by rw [← hW]; exact (OwI.lit0 W0 hob).alloc_ _, by rw [← hW]; exact OwI.more (OwI.lit0 (b := ob + 1) (W0.alloc (.cells #[] 3)) (by simp [hob])) (Nat.le_succ _), fun g h1 h2 => by injection h1 with h1; injection h2 with h2; simp only at h1 h2; omega⟩)
  have hWW : ((((w.alloc (.cells #[.int .i64 n, .slice A m c] 25)).alloc (.cells vz 25)).alloc (.cells vz 25)).alloc (.cells #[] 3)).alloc (.cells #[] 3) = W := by rw [hW0]; exact hW
  have hobW : ob ≤ W.heap.size := by rw [← hW, ← hob]; simp; omega
  have hrA := hid ((Reads.below hr hT.out.b).more (show w.heap.size ≤ ob by omega))
  have hl := hid hr.len
  have hm40 : m < 1099511627776 := by omega
  have e1 : w.heap.size + 1 + 1 + 1 = ob := by omega
  have e2 : w.heap.size + 1 + 1 + 1 + 1 = ob + 1 := by omega
  replace hWW := hid hWW
  clear hr hT0 hW0 hW hob
  obtain ⟨n1, hw1⟩ : ∃ n1, IntKind.i64.wrap (n + 1) = n1 := ⟨_, rfl⟩
  obtain ⟨d0, d1, -, -⟩ := hT.out.a.two
  go_enter Tryd.func28, Tryd.ntmps28
  go_upto_region 3 with (fail)
  rw [hWW.out]
  go_wp2
  go_loopw [7, 8, 9] (fun ou ov i wr => ∃ (k : Nat), k ≤ m ∧ i = .int .i64 k ∧ Hid (Pr wr ob ou ov (loL (zs.take k) x) (hiL (zs.take k) x)) ∧ Hid (Below ob W wr)) (fun _ _ i _ => m - (intOf i).toNat)
  case atStart => exact ⟨0, Nat.zero_le _, rfl, by simpa [loL, hiL] using hP, hid (Below.refl _ _)⟩
  case round =>
    obtain ⟨k, hk, rfl, hPr, hb⟩ := hrel
    clear d0 d1 hP
    have hTr := hid (hT.out.stepB hb.out (by omega))
    have hobr := Nat.le_trans hobW hb.out.size
    have hrr := hid (Reads.below hrA.out hb.out)
    obtain ⟨d0, d1, -, -⟩ := hTr.out.a.two
    by_cases hlt : k < m
    · obtain ⟨ad, z, rfl, hz, hc⟩ := RdI.at' hrr.out hlt
      have i0 : (0 : Int) ≤ (k : Int) := by omega
      have i1 : (k : Int) < (m : Int) := by omega
      have hkl : k < zs.length := by rw [hl.out]; exact hlt
      have n1 : Hid ((loL (zs.take k) x).length + 1 < 1099511627776) := hid (by have := take_filter_len (fun z => decide (z < x)) zs k; unfold loL; omega)
      have n2 : Hid ((hiL (zs.take k) x).length + 1 < 1099511627776) := hid (by have := take_filter_len (fun z => !decide (z < x)) zs k; unfold hiL; omega)
      have hcl : Hid (Cs (wr.alloc (.cells #[.int .i64 z] 3)) wr.heap.size 3 #[.int .i64 z]) := hid (Cs.new _ _ _)
      have hPl := hid (hPr.out.below (below1 wr (.cells #[.int .i64 z] 3)))
      have hbl := hid (hb.out.alloc hobr (.cells #[.int .i64 z] 3))
      have hzl : ob ≤ (wr.alloc (.cells #[.int .i64 z] 3)).heap.size := by simp; omega
      by_cases hzx : z < x
      · have hhit := hid (take_hit (p := fun z => decide (z < x)) (k := k) hkl hz.out (by simp [hzx]))
        have hmiss := hid (take_miss (p := fun z => !decide (z < x)) (k := k) hkl hz.out (by simp [hzx]))
        go_wp2_with (at_builtin; refine wpList_app1K rfl (.tmp 30) (.tmp 36) rfl (B := ob) rfl rfl hcl.out hPl.out.a hzl n1.out ?_; intro v' w3 h1 h2 h3)
        have hP3 := hid (hPl.out.grow h1 h2 h3)
        have hb3 := hid (hbl.out.grown h2 hzl (fun g hg => (hPl.out.a.lt g hg).1))
        clear h1 h2 h3
        go_wp2
        go_roundw
        case rel => exact ⟨k + 1, by omega, by go_num, hid (by rw [loL, hiL, hhit.out, hmiss.out]; exact hP3.out), hb3⟩
        case measure => simp [intOf]; omega
      · have hhit := hid (take_hit (p := fun z => !decide (z < x)) (k := k) hkl hz.out (by simp; omega))
        have hmiss := hid (take_miss (p := fun z => decide (z < x)) (k := k) hkl hz.out (by simp; omega))
        go_wp2_with (at_builtin; refine wpList_app1K rfl (.tmp 38) (.tmp 44) rfl (B := ob) rfl rfl hcl.out hPl.out.b hzl n2.out ?_; intro v' w3 h1 h2 h3)
        have hP3 := hid ((hPl.out.swap.grow h1 h2 h3).swap)
        have hb3 := hid (hbl.out.grown h2 hzl (fun g hg => (hPl.out.b.lt g hg).1))
        clear h1 h2 h3
        go_wp2
        go_roundw
        case rel => exact ⟨k + 1, by omega, by go_num, hid (by rw [loL, hiL, hhit.out, hmiss.out]; exact hP3.out), hb3⟩
        case measure => simp [intOf]; omega
    · have hnk : ¬ ((k : Int) < (m : Int)) := by omega
      rw [List.take_of_length_le (by rw [hl.out]; omega)] at hPr
      obtain ⟨Aa, ca, ea, hra⟩ := hPr.out.a.form
      obtain ⟨Ab, cb, eb, hrb⟩ := hPr.out.b.form
      subst ea; subst eb
      have hra := hid hra
      have hrb := hid hrb
      have hla : Hid ((loL zs x).length < 2097152) := hid (by have := List.length_filter_le (fun z => decide (z < x)) zs; have := hl.out; unfold loL; omega)
      have hlb : Hid ((hiL zs x).length < 2097152) := hid (by have := List.length_filter_le (fun z => !decide (z < x)) zs; have := hl.out; unfold hiL; omega)
      obtain ⟨⟨⟨on1, oz1⟩, ok1⟩, hv1⟩ : ∃ rv, vwR n1 (loL zs x) = rv := ⟨_, rfl⟩
      obtain ⟨⟨⟨on2, oz2⟩, ok2⟩, hv2⟩ : ∃ rv, vwR n1 (hiL zs x) = rv := ⟨_, rfl⟩
      replace hv1 := hid hv1
      replace hv2 := hid hv2
      have hlow : w.heap.size + 1 + 1 < ob := by omega
      go_wp2_with fail
      refine (l23View_as hv1.out wr hra.out hla.out hw1).mono ?_
      rintro e w4 ⟨A4, c4, rfl, hO4, hb4⟩
      obtain ⟨u4, hu4⟩ : ∃ u, w4.alloc (.cells #[.int .i64 on1, .slice A4 oz1.length c4] 25) = u := ⟨_, rfl⟩
      have hbu4 : Below wr.heap.size wr u4 := by rw [← hu4]; exact hb4.alloc hb4.size _
      have hT4 := hid (hTr.out.step hbu4)
      have hC4 := hid (show Cs u4 w4.heap.size 25 #[.int .i64 on1, .slice A4 oz1.length c4] by rw [← hu4]; exact Cs.new _ _ _)
      have hO4u := hid (show OwI u4 wr.heap.size (.slice A4 oz1.length c4) oz1 by rw [← hu4]; exact hO4.alloc_ _)
      have hrb4 := hid ((Reads.below hrb.out hbu4).more hbu4.size)
      have hrr4 := hid ((Reads.below hrr.out (hbu4.mono hobr)))
      have hz4 : wr.heap.size ≤ u4.heap.size := hbu4.size
      have hzw4' : wr.heap.size ≤ w4.heap.size := hb4.size
      replace hu4 := hid hu4
      clear hb4 hO4 hbu4 d0 d1
      obtain ⟨d0, d1, -, -⟩ := hT4.out.a.two
      go_upto_region 10 with (fail)
      rw [hu4.out]
      go_wp2_with fail
      refine (l23View_as hv2.out u4 hrb4.out hlb.out hw1).mono ?_
      rintro e w5 ⟨A5, c5, rfl, hO5, hb5⟩
      obtain ⟨u5, hu5⟩ : ∃ u, w5.alloc (.cells #[.int .i64 on2, .slice A5 oz2.length c5] 25) = u := ⟨_, rfl⟩
      have hbu5 : Below u4.heap.size u4 u5 := by rw [← hu5]; exact hb5.alloc hb5.size _
      have hT5 := hid (hT4.out.step hbu5)
      have hC5 := hid (show Cs u5 w5.heap.size 25 #[.int .i64 on2, .slice A5 oz2.length c5] by rw [← hu5]; exact Cs.new _ _ _)
      have hC45 := hid (hC4.out.step hbu5)
      have hO5u := hid (show OwI u5 u4.heap.size (.slice A5 oz2.length c5) oz2 by rw [← hu5]; exact hO5.alloc_ _)
      have hO45 := hid (own_of_block hO4u.out fun g hg => hbu5.block g (hO4u.out.lt g hg).2)
      have hO4b := hid (fun g hg => (hO4u.out.lt g hg).2)
      have hrr5 := hid ((Reads.below hrr4.out (hbu5.mono (by omega))).more (show ob ≤ u5.heap.size by have := hbu5.size; omega))
      have hz5 : u4.heap.size ≤ u5.heap.size := hbu5.size
      have hzw5 : u4.heap.size ≤ w5.heap.size := hb5.size
      have hzw4 : wr.heap.size ≤ w4.heap.size := hzw4'
      replace hu5 := hid hu5
      clear hb5 hO5 hbu5 d0 d1 hC4 hT4 hO4u
      obtain ⟨d0, d1, -, -⟩ := hT5.out.a.two
      go_upto_region 11 with (fail)
      rw [hu5.out]
      go_wp2_with fail
      refine (ViewValid_spec n _ hrr5.out hm40 rfl).mono ?_
      rintro e w6 ⟨rfl, hb6⟩
      have hT6 := hid (hT5.out.step hb6)
      have hC56 := hid (hC5.out.step hb6)
      have hC46 := hid (hC45.out.step hb6)
      have hO56 := hid (own_of_block hO5u.out fun g hg => hb6.block g (hO5u.out.lt g hg).2)
      have hO46 := hid (own_of_block hO45.out fun g hg => hb6.block g (hO45.out.lt g hg).2)
      have hz6 : u5.heap.size ≤ w6.heap.size := hb6.size
      clear hb6 d0 d1 hT5 hC5 hC45 hO5u hO45
      obtain ⟨y0, y1, y2, y3⟩ := hT6.out.y.two
      obtain ⟨z0, z1, z2, z3⟩ := hT6.out.z.two
      cases hv : vwB n zs with
      | false =>
        have hno := hid (splitR_no (n := n) (zs := zs) (m := x) (by simp [splB, hv]))
        clear hv
        obtain ⟨f1, f2, f3⟩ := hT6.out.fill (.int .i64 0) (.slice none 0 0) (.int .i64 0) (.slice none 0 0)
        replace f3 := hid f3
        obtain ⟨r0, r1, -, -⟩ := f1.two
        obtain ⟨s0, s1, -, -⟩ := f2.two
        clear f1 f2 hT6 hC56 hC46 hO56 hO46
        go_wp2
        refine bodyPost_ret (v := .tuple #[vwV 0 (.slice none 0 0), vwV 0 (.slice none 0 0), .bool false]) (by simp [results, Tryd.results28, go_sem, r0, r1, s0, s1]) rfl ?_
        rw [hno.out]
        exact ⟨none, 0, none, 0, w.heap.size, rfl, ⟨World.ownsRow_nil _ _ _ _, fun g hg => by cases hg⟩, World.ownsRow_nil _ _ _ _, Nat.le_refl _, f3.out.size, f3.out⟩
      | true =>
        obtain ⟨⟨n0, n9⟩, -, -⟩ := vwB_true.1 hv
        have hn1 : n1 = n + 1 := by rw [← hw1]; exact IntWalk.i64_in _ (by omega)
        subst hn1
        cases ok1 with
        | false =>
          have hno := hid (splitR_no (n := n) (zs := zs) (m := x) (by simp [splB, vwR_false hv1.out]))
          clear hv
          obtain ⟨f1, f2, f3⟩ := hT6.out.fill (.int .i64 0) (.slice none 0 0) (.int .i64 0) (.slice none 0 0)
          replace f3 := hid f3
          obtain ⟨r0, r1, -, -⟩ := f1.two
          obtain ⟨s0, s1, -, -⟩ := f2.two
          clear f1 f2 hT6 hC56 hC46 hO56 hO46
          go_wp2
          refine bodyPost_ret (v := .tuple #[vwV 0 (.slice none 0 0), vwV 0 (.slice none 0 0), .bool false]) (by simp [results, Tryd.results28, go_sem, r0, r1, s0, s1]) rfl ?_
          rw [hno.out]
          exact ⟨none, 0, none, 0, w.heap.size, rfl, ⟨World.ownsRow_nil _ _ _ _, fun g hg => by cases hg⟩, World.ownsRow_nil _ _ _ _, Nat.le_refl _, f3.out.size, f3.out⟩
        | true =>
          obtain ⟨b1, rfl, rfl⟩ := vwR_true hv1.out
          cases ok2 with
          | false =>
            have hno := hid (splitR_no (n := n) (zs := zs) (m := x) (by simp [splB, vwR_false hv2.out]))
            clear hv b1
            obtain ⟨f1, f2, f3⟩ := hT6.out.fill (.int .i64 0) (.slice none 0 0) (.int .i64 0) (.slice none 0 0)
            replace f3 := hid f3
            obtain ⟨r0, r1, -, -⟩ := f1.two
            obtain ⟨s0, s1, -, -⟩ := f2.two
            clear f1 f2 hT6 hC56 hC46 hO56 hO46
            go_wp2
            refine bodyPost_ret (v := .tuple #[vwV 0 (.slice none 0 0), vwV 0 (.slice none 0 0), .bool false]) (by simp [results, Tryd.results28, go_sem, r0, r1, s0, s1]) rfl ?_
            rw [hno.out]
            exact ⟨none, 0, none, 0, w.heap.size, rfl, ⟨World.ownsRow_nil _ _ _ _, fun g hg => by cases hg⟩, World.ownsRow_nil _ _ _ _, Nat.le_refl _, f3.out.size, f3.out⟩
          | true =>
            obtain ⟨b2, rfl, rfl⟩ := vwR_true hv2.out
            have hyes := hid (splitR_yes (n := n) (zs := zs) (m := x) (by simp [splB, hv, b1, b2]))
            obtain ⟨f1, f2, f3⟩ := hT6.out.fill (.int .i64 (n + 1)) (.slice A4 (loL zs x).length c4) (.int .i64 (n + 1)) (.slice A5 (hiL zs x).length c5)
            replace f3 := hid f3
            have r0 := f1.cell 0
            have r1 := f1.cell 1
            have s0 := f2.cell 0
            have s1 := f2.cell 1
            have g1 := hid (hO46.out.fill2V hT6.out.y hT6.out.z (.int .i64 (n + 1)) (.slice A4 (loL zs x).length c4) (.int .i64 (n + 1)) (.slice A5 (hiL zs x).length c5))
            have g2 := hid (hO56.out.fill2V hT6.out.y hT6.out.z (.int .i64 (n + 1)) (.slice A4 (loL zs x).length c4) (.int .i64 (n + 1)) (.slice A5 (hiL zs x).length c5))
            obtain ⟨q40, q41, -, -⟩ := hC46.out.two
            obtain ⟨q50, q51, -, -⟩ := hC56.out.two
            have k50 := ((hC56.out.far (p := ⟨w.heap.size + 1, 0, none⟩) (by simp; omega) (.int .i64 (n + 1)))).two.1
            have k51 := ((hC56.out.far (p := ⟨w.heap.size + 1, 0, none⟩) (by simp; omega) (.int .i64 (n + 1)))).two.2.1
            have k52 := ((hC56.out.far (p := ⟨w.heap.size + 1, 0, none⟩) (by simp; omega) (.int .i64 (n + 1))).far (p := ⟨w.heap.size + 1, 1, none⟩) (by simp; omega) (.slice A4 (loL zs x).length c4)).two.1
            have k53 := ((hC56.out.far (p := ⟨w.heap.size + 1, 0, none⟩) (by simp; omega) (.int .i64 (n + 1))).far (p := ⟨w.heap.size + 1, 1, none⟩) (by simp; omega) (.slice A4 (loL zs x).length c4)).two.2.1
            have x0 := (hT6.out.y.set 0 (.int .i64 (n + 1))).cell 0
            have x1 := (hT6.out.z.set 0 (.int .i64 (n + 1))).cell 0
            have hsz9 := hid (show u4.heap.size ≤ ((((w6.setCell ⟨w.heap.size + 1, 0, none⟩ (.int .i64 (n + 1))).setCell ⟨w.heap.size + 1, 1, none⟩ (.slice A4 (loL zs x).length c4)).setCell ⟨w.heap.size + 1 + 1, 0, none⟩ (.int .i64 (n + 1))).setCell ⟨w.heap.size + 1 + 1, 1, none⟩ (.slice A5 (hiL zs x).length c5)).heap.size by simp [World.setCell]; omega)
            clear hv b1 b2 f1 f2 hT6 hC56 hC46 hO56 hO46
            go_wp2
            go_region
            all_goals go_wp2
            all_goals
              refine bodyPost_ret (v := .tuple #[vwV (n + 1) (.slice A4 (loL zs x).length c4), vwV (n + 1) (.slice A5 (hiL zs x).length c5), .bool true]) (by simp [results, Tryd.results28, go_sem, r0, r1, s0, s1, x0, x1]) rfl ?_
              rw [hyes.out]
              exact ⟨A4, c4, A5, c5, u4.heap.size, rfl, ⟨g1.out.more (by omega), hO4b.out⟩, g2.out, by omega, hsz9.out, f3.out.drew⟩
end Go.Proofs.YtppdfgifnmfioaaDoor
