/-
  Contract of the model's ViewMerge. No condition but lengths below 2^40.
-/
import Derived.Test.YtppdfgifnmfioaaDoorVwK
namespace Go.Proofs.YtppdfgifnmfioaaDoor
open Go.RowKit
set_option linter.unusedVariables false
set_option linter.unusedSimpArgs false

/-- the boxes of a call of two views that makes one -/
structure TwoM (w W : World) (n : Int) (v : Value) (k : Int) (u : Value) : Prop where
  b : Below w.heap.size w W
  a : Cs W w.heap.size 25 #[.int .i64 n, v]
  c : Cs W (w.heap.size + 1) 25 #[.int .i64 k, u]
  z : Cs W (w.heap.size + 1 + 1) 25 vz
  lt : w.heap.size + 1 + 1 < W.heap.size

theorem TwoM.new (w : World) (n : Int) (v : Value) (k : Int) (u : Value) : TwoM w (((w.alloc (.cells #[.int .i64 n, v] 25)).alloc (.cells #[.int .i64 k, u] 25)).alloc (.cells vz 25)) n v k u :=
  ⟨below3 w _ _ _, ((Cs.new w _ _).alloc _).alloc _, (Cs.new' _ _ _ (by simp)).alloc _, Cs.new' _ _ _ (by simp), by simp⟩

theorem TwoM.stepB {w W W' : World} {n k : Int} {v u : Value} {B : Nat} (h : TwoM w W n v k u) (hb : Below B W W') (hB : w.heap.size + 1 + 1 < B) : TwoM w W' n v k u :=
  ⟨h.b.trans (hb.mono (by omega)), h.a.below hb (by omega), h.c.below hb (by omega), h.z.below hb hB, Nat.lt_of_lt_of_le h.lt hb.size⟩

theorem TwoM.step {w W W' : World} {n k : Int} {v u : Value} (h : TwoM w W n v k u) (hb : Below W.heap.size W W') : TwoM w W' n v k u := h.stepB hb h.lt

theorem TwoM.fill {w W : World} {n k : Int} {v u : Value} (h : TwoM w W n v k u) (u0 u1 : Value) :
    Cs ((W.setCell ⟨w.heap.size + 1 + 1, 0, none⟩ u0).setCell ⟨w.heap.size + 1 + 1, 1, none⟩ u1) (w.heap.size + 1 + 1) 25 #[u0, u1] ∧ Below w.heap.size w ((W.setCell ⟨w.heap.size + 1 + 1, 0, none⟩ u0).setCell ⟨w.heap.size + 1 + 1, 1, none⟩ u1) :=
  h.z.fillV h.b (by omega) u0 u1

theorem com_of {zs ys : List Int} {y : Int} (h : hasB zs y = true) (h2 : hasB ys y = true) : comB zs ys = true := List.any_eq_true.2 ⟨y, hasB_iff.1 h2, h⟩

theorem com_none {zs ys : List Int} (hy : Mv ys) (h : ∀ j : Nat, j < 8 → (hasB zs (j : Int) && hasB ys (j : Int)) = false) : comB zs ys = false := by
  unfold comB
  rw [List.any_eq_false]
  intro y hm hc
  obtain ⟨h0, h1⟩ := hy.2 y hm
  have := h y.toNat (by omega)
  rw [Int.toNat_of_nonneg h0, hc, hasB_iff.2 hm] at this
  simp at this

set_option maxRecDepth 100000 in
set_option maxHeartbeats 16000000 in
theorem ViewMerge_spec {m c m2 c2 : Nat} {A A2 : Option Addr} {zs ys : List Int} (n k : Int) (w : World) (hr : RdI w w.heap.size A m zs) (hs : RdI w w.heap.size A2 m2 ys) (hm : m < 2097152) (hm2 : m2 < 2097152) :
    Calls Tryd.prog 31 #[vwV n (.slice A m c), vwV k (.slice A2 m2 c2)] w (VPost (mergeR n zs k ys) w) := by
  obtain ⟨W, hW⟩ : ∃ W, (((w.alloc (.cells #[.int .i64 n, .slice A m c] 25)).alloc (.cells #[.int .i64 k, .slice A2 m2 c2] 25)).alloc (.cells vz 25)) = W := ⟨_, rfl⟩
  have hT := hid (show TwoM w W n (.slice A m c) k (.slice A2 m2 c2) by rw [← hW]; exact TwoM.new w _ _ _ _)
  have hr' := hid (show RdI W W.heap.size A m zs from (Reads.below hr hT.out.b).more hT.out.b.size)
  have hs' := hid (show RdI W W.heap.size A2 m2 ys from (Reads.below hs hT.out.b).more hT.out.b.size)
  replace hW := hid hW
  clear hr hs
  obtain ⟨d0, d1, -, -⟩ := hT.out.a.two
  cases hv : vwB n zs with
  | false =>
    have hv' := hid hv
    go_enter Tryd.func31, Tryd.ntmps31
    go_upto_region 1 with (fail)
    rw [hW.out]
    go_wp2_with fail
    refine (ViewValid_spec n _ hr'.out (by omega) hv'.out).mono ?_
    rintro e w1 ⟨rfl, hb⟩
    have hT1 := hid (hT.out.step hb)
    clear d0 d1 hb hv
    have hno := hid (mergeR_no (n := n) (zs := zs) (k := k) (ys := ys) (.inl hv'.out))
    obtain ⟨z0, z1, z2, z3⟩ := hT1.out.z.two
    obtain ⟨f1, f2⟩ := hT1.out.fill (.int .i64 0) (.slice none 0 0)
    replace f2 := hid f2
    obtain ⟨y0, y1, -, -⟩ := f1.two
    clear f1 hT1
    go_wp2
    refine bodyPost_ret (v := .tuple #[vwV 0 (.slice none 0 0), .bool false]) (by simp [results, Tryd.results31, go_sem, y0, y1]) rfl ?_
    rw [hno.out]
    exact ⟨none, 0, rfl, World.ownsRow_nil _ _ _ _, f2.out⟩
  | true =>
    have hv' := hid hv
    clear hv
    cases hk : vwB k ys with
    | false =>
      have hk' := hid hk
      clear hk
      go_enter Tryd.func31, Tryd.ntmps31
      go_upto_region 1 with (fail)
      rw [hW.out]
      go_wp2_with fail
      refine (ViewValid_spec n _ hr'.out (by omega) hv'.out).mono ?_
      rintro e w1 ⟨rfl, hb⟩
      have hT1 := hid (hT.out.step hb)
      have hs1 := hid ((Reads.below hs'.out hb).more hb.size)
      clear d0 d1 hb
      obtain ⟨d0, d1, -, -⟩ := hT1.out.c.two
      go_wp2_with fail
      refine (ViewValid_spec k _ hs1.out (by omega) hk'.out).mono ?_
      rintro e w2 ⟨rfl, hb⟩
      have hT2 := hid (hT1.out.step hb)
      clear d0 d1 hb
      have hno := hid (mergeR_no (n := n) (zs := zs) (k := k) (ys := ys) (.inr (.inl hk'.out)))
      obtain ⟨z0, z1, z2, z3⟩ := hT2.out.z.two
      obtain ⟨f1, f2⟩ := hT2.out.fill (.int .i64 0) (.slice none 0 0)
      replace f2 := hid f2
      obtain ⟨y0, y1, -, -⟩ := f1.two
      clear f1 hT2
      go_wp2
      refine bodyPost_ret (v := .tuple #[vwV 0 (.slice none 0 0), .bool false]) (by simp [results, Tryd.results31, go_sem, y0, y1]) rfl ?_
      rw [hno.out]
      exact ⟨none, 0, rfl, World.ownsRow_nil _ _ _ _, f2.out⟩
    | true =>
      obtain ⟨⟨n0, n9⟩, -, -⟩ := vwB_true.1 hv'.out
      obtain ⟨⟨k0, k9⟩, -, hmy⟩ := vwB_true.1 hk
      have hk' := hid hk
      replace hmy := hid hmy
      clear hk
      go_enter Tryd.func31, Tryd.ntmps31
      go_upto_region 1 with (fail)
      rw [hW.out]
      go_wp2_with fail
      refine (ViewValid_spec n _ hr'.out (by omega) hv'.out).mono ?_
      rintro e w1 ⟨rfl, hb⟩
      have hT1 := hid (hT.out.step hb)
      have hr1 := hid ((Reads.below hr'.out hb).more hb.size)
      have hs1 := hid ((Reads.below hs'.out hb).more hb.size)
      clear d0 d1 hb
      obtain ⟨d0, d1, -, -⟩ := hT1.out.c.two
      go_wp2_with fail
      refine (ViewValid_spec k _ hs1.out (by omega) hk'.out).mono ?_
      rintro e w2 ⟨rfl, hb⟩
      have hT2 := hid (hT1.out.step hb)
      have hr2 := hid (show RdI w2 w2.heap.size A m zs from (Reads.below hr1.out hb).more hb.size)
      have hs2 := hid (show RdI w2 w2.heap.size A2 m2 ys from (Reads.below hs1.out hb).more hb.size)
      have o0 := hid (OwI.lit0 w2 rfl)
      have b0 := hid (below1 w2 (.cells #[] 3))
      have hlt2 : w.heap.size + 1 + 1 < w2.heap.size := hT2.out.lt
      clear d0 d1 hb hT1 hr1 hs1
      go_wp2
      go_loopw [6, 7] (fun o i wr => ∃ (q : Nat) (os : List Int), q ≤ 8 ∧ i = .int .i64 q ∧ Hid (os = (grps q).filter fun g => hasB zs g || hasB ys g) ∧ Hid (OwI wr w2.heap.size o os) ∧ Hid (Below w2.heap.size w2 wr) ∧ Hid (∀ j : Nat, j < q → (hasB zs (j : Int) && hasB ys (j : Int)) = false)) (fun _ i _ => 8 - (intOf i).toNat)
      case atStart => exact ⟨0, [], by omega, rfl, hid (by simp [grps]), o0, b0, hid (fun j h => by omega)⟩
      case round =>
        obtain ⟨q, os, hq, rfl, hos, hO, hB, hno⟩ := hrel
        clear o0 b0
        obtain ⟨Ao, co, e0, -⟩ := hO.out.form
        subst e0
        have hTr := hid (hT2.out.stepB hB.out hlt2)
        have rz := hid ((Reads.below hr2.out hB.out).more hB.out.size)
        have ry := hid ((Reads.below hs2.out hB.out).more hB.out.size)
        have hol := hid (show os.length ≤ 8 by rw [hos.out]; exact Nat.le_trans (grps_len _ _) hq)
        have hszr : w2.heap.size ≤ wr.heap.size := hB.out.size
        obtain ⟨d0, d1, -, -⟩ := hTr.out.a.two
        obtain ⟨c0, c1, -, -⟩ := hTr.out.c.two
        by_cases hlt : q < 8
        · have hqi : (q : Int) < 8 := by omega
          obtain ⟨p1, hp1⟩ : ∃ p, hasB zs (q : Int) = p := ⟨_, rfl⟩
          obtain ⟨p2, hp2⟩ : ∃ p, hasB ys (q : Int) = p := ⟨_, rfl⟩
          replace hp1 := hid hp1
          replace hp2 := hid hp2
          have done_ : p1 = false ∨ p2 = false → Hid (∀ j : Nat, j < q + 1 → (hasB zs (j : Int) && hasB ys (j : Int)) = false) := fun h => hid fun j hj => by
            by_cases e : j = q
            · subst e; rw [hp1.out, hp2.out]; rcases h with rfl | rfl <;> simp
            · exact hno.out j (by omega)
          cases p1 with
          | false =>
            cases p2 with
            | false =>
              have hn9 := done_ (.inl rfl)
              clear done_
              go_wp2_with (first | (go_at_call 40; (with_reducible refine (l1Has_asV hp1.out _ rz.out (by omega)).mono ?_); rintro e w9 ⟨rfl, rfl⟩) | (go_at_call 40; (with_reducible refine (l1Has_asV hp2.out _ ry.out (by omega)).mono ?_); rintro e w9 ⟨rfl, rfl⟩))
              go_roundw
              case rel => exact ⟨q + 1, os, by omega, by go_num, hid (by rw [hos.out]; exact (grps_miss (p := fun g => hasB zs g || hasB ys g) (k := q) (by simp [hp1.out, hp2.out])).symm), hO, hB, hn9⟩
              case measure => simp [intOf]; omega
            | true =>
              have hn9 := done_ (.inl rfl)
              clear done_
              have hO6 := hid (hO.out.alloc_ (.cells #[.int .i64 (q : Int)] 3))
              have hc6 : Hid (Cs (wr.alloc (.cells #[.int .i64 (q : Int)] 3)) wr.heap.size 3 #[.int .i64 (q : Int)]) := hid (Cs.new _ _ _)
              have hB6 := hid (hB.out.alloc hszr (.cells #[.int .i64 (q : Int)] 3))
              have hz6 : w2.heap.size ≤ (wr.alloc (.cells #[.int .i64 (q : Int)] 3)).heap.size := hB6.out.size
              have hYe := hid (show os ++ [(q : Int)] = (grps (q + 1)).filter fun g => hasB zs g || hasB ys g by rw [hos.out]; exact (grps_hit (p := fun g => hasB zs g || hasB ys g) (k := q) (by simp [hp1.out, hp2.out])).symm)
              go_wp2_with (first | (go_at_call 40; (with_reducible refine (l1Has_asV hp1.out _ rz.out (by omega)).mono ?_); rintro e w9 ⟨rfl, rfl⟩) | (go_at_call 40; (with_reducible refine (l1Has_asV hp2.out _ ry.out (by omega)).mono ?_); rintro e w9 ⟨rfl, rfl⟩) | (at_builtin; refine wpList_app1K rfl (.tmp 43) (.tmp 45) rfl (B := w2.heap.size) rfl rfl hc6.out hO6.out hz6 (by have := hol.out; omega) ?_; intro v7 w7 ho7 hg7 hk7; obtain ⟨Y, hY⟩ : ∃ Y, os ++ [(q : Int)] = Y := ⟨_, rfl⟩; rw [hY] at ho7; have hYs := hid (show Y = (grps (q + 1)).filter fun g => hasB zs g || hasB ys g by rw [← hY]; exact hYe.out); clear hY; obtain ⟨A7, c7, rfl, -⟩ := ho7.form; have hB7 := hid (hB6.out.grown hg7 hz6 (fun b e => (hO6.out.lt b e).1)); have hO7 := hid ho7; clear ho7 hg7 hk7))
              go_roundw
              case rel => exact ⟨q + 1, _, by omega, by go_num, hYs, hO7, hB7, hn9⟩
              case measure => simp [intOf]; omega
          | true =>
            cases p2 with
            | true =>
              have hno := hid (mergeR_no (n := n) (zs := zs) (k := k) (ys := ys) (.inr (.inr (com_of hp1.out hp2.out))))
              obtain ⟨z0, z1, z2, z3⟩ := hTr.out.z.two
              obtain ⟨f1, f2⟩ := hTr.out.fill (.int .i64 0) (.slice none 0 0)
              replace f2 := hid f2
              obtain ⟨y0, y1, -, -⟩ := f1.two
              clear f1 hTr done_
              go_wp2_with (first | (go_at_call 40; (with_reducible refine (l1Has_asV hp1.out _ rz.out (by omega)).mono ?_); rintro e w9 ⟨rfl, rfl⟩) | (go_at_call 40; (with_reducible refine (l1Has_asV hp2.out _ ry.out (by omega)).mono ?_); rintro e w9 ⟨rfl, rfl⟩))
              refine bodyPost_ret (v := .tuple #[vwV 0 (.slice none 0 0), .bool false]) (by simp [results, Tryd.results31, go_sem, y0, y1]) rfl ?_
              rw [hno.out]
              exact ⟨none, 0, rfl, World.ownsRow_nil _ _ _ _, f2.out⟩
            | false =>
              have hn9 := done_ (.inr rfl)
              clear done_
              have hO6 := hid (hO.out.alloc_ (.cells #[.int .i64 (q : Int)] 3))
              have hc6 : Hid (Cs (wr.alloc (.cells #[.int .i64 (q : Int)] 3)) wr.heap.size 3 #[.int .i64 (q : Int)]) := hid (Cs.new _ _ _)
              have hB6 := hid (hB.out.alloc hszr (.cells #[.int .i64 (q : Int)] 3))
              have hz6 : w2.heap.size ≤ (wr.alloc (.cells #[.int .i64 (q : Int)] 3)).heap.size := hB6.out.size
              have hYe := hid (show os ++ [(q : Int)] = (grps (q + 1)).filter fun g => hasB zs g || hasB ys g by rw [hos.out]; exact (grps_hit (p := fun g => hasB zs g || hasB ys g) (k := q) (by simp [hp1.out, hp2.out])).symm)
              go_wp2_with (first | (go_at_call 40; (with_reducible refine (l1Has_asV hp1.out _ rz.out (by omega)).mono ?_); rintro e w9 ⟨rfl, rfl⟩) | (go_at_call 40; (with_reducible refine (l1Has_asV hp2.out _ ry.out (by omega)).mono ?_); rintro e w9 ⟨rfl, rfl⟩) | (at_builtin; refine wpList_app1K rfl (.tmp 43) (.tmp 45) rfl (B := w2.heap.size) rfl rfl hc6.out hO6.out hz6 (by have := hol.out; omega) ?_; intro v7 w7 ho7 hg7 hk7; obtain ⟨Y, hY⟩ : ∃ Y, os ++ [(q : Int)] = Y := ⟨_, rfl⟩; rw [hY] at ho7; have hYs := hid (show Y = (grps (q + 1)).filter fun g => hasB zs g || hasB ys g by rw [← hY]; exact hYe.out); clear hY; obtain ⟨A7, c7, rfl, -⟩ := ho7.form; have hB7 := hid (hB6.out.grown hg7 hz6 (fun b e => (hO6.out.lt b e).1)); have hO7 := hid ho7; clear ho7 hg7 hk7))
              go_roundw
              case rel => exact ⟨q + 1, _, by omega, by go_num, hYs, hO7, hB7, hn9⟩
              case measure => simp [intOf]; omega
        · have hqi : ¬ (q : Int) < 8 := by omega
          obtain rfl : q = 8 := by omega
          have hcom := hid (com_none hmy.out hno.out)
          have hyes := hid (mergeR_yes hv'.out hk'.out hcom.out)
          have hmg := hid (show os = mg zs ys from hos.out)
          obtain ⟨on, oz, ok, hV⟩ : ∃ on oz ok, vwR (max n k + 1) os = ((on, oz), ok) := ⟨_, _, _, rfl⟩
          replace hV := hid hV
          have ro := hid (show RdI wr wr.heap.size Ao os.length os by obtain ⟨A', c', e, h⟩ := hO.out.form; injection e with e1 _ _; rw [e1]; exact h)
          have hmx : IntKind.i64.wrap (max n k + 1) = max n k + 1 := IntWalk.i64_in _ (by omega)
          have hol' := hol.out
          go_wp2_with fail
          refine (l23View_as hV.out wr ro.out (by omega) hmx).mono ?_
          rintro e w5 ⟨A5, c5, rfl, hO5, hb⟩
          have hT5 := hid (hTr.out.step hb)
          clear d0 d1 c0 c1 hb
          obtain ⟨z0, z1, z2, z3⟩ := hT5.out.z.two
          obtain ⟨f1, f2⟩ := hT5.out.fill (.int .i64 on) (.slice A5 oz.length c5)
          replace f2 := hid f2
          obtain ⟨y0, y1, -, -⟩ := f1.two
          have hO9 := hid ((hO5.fillV hT5.out.z (.int .i64 on) (.slice A5 oz.length c5)).more (show w.heap.size ≤ wr.heap.size by omega))
          clear f1 hT5 hO5
          go_wp2
          refine bodyPost_ret (v := .tuple #[vwV on (.slice A5 oz.length c5), .bool ok]) (by simp [results, Tryd.results31, go_sem, y0, y1]) rfl ?_
          rw [hyes.out, ← hmg.out, hV.out]
          exact ⟨A5, c5, rfl, hO9.out, f2.out⟩
end Go.Proofs.YtppdfgifnmfioaaDoor
