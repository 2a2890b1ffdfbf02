/-
  The draw of two views: DrawViewMerge. No condition.
-/
import Derived.Test.YtppdfgifnmfioaaDoorVdC
import Derived.Test.YtppdfgifnmfioaaDoorVwK
namespace Go.Proofs.YtppdfgifnmfioaaDoor
open Go.RowKit
set_option linter.unusedVariables false
set_option linter.unusedSimpArgs false

/-- two views that were drawn -/
def DTwoV (w : World) (e : Ending) (w' : World) : Prop :=
  ∃ (n : Int) (A : Option Addr) (c : Nat) (zs : List Int) (k : Int) (A2 : Option Addr) (c2 : Nat) (ys : List Int), e = .returned (.tuple #[vwV n (.slice A zs.length c), vwV k (.slice A2 ys.length c2)]) ∧ OwI w' w.heap.size (.slice A zs.length c) zs ∧ OwI w' w.heap.size (.slice A2 ys.length c2) ys ∧ zs.length ≤ 9 ∧ ys.length ≤ 9 ∧ Below w.heap.size w w'

theorem OwI.setY {w : World} {B : Nat} {v : Value} {zs : List Int} {p : Addr} (h : OwI w B v zs) (hp : v.ownBlock ≠ some p.block) (u : Value) : OwI (w.setCell p u) B v zs :=
  own_of_block h fun k hk => Below.heap_setCell w p u k (fun e => hp (by rw [hk, e]))

theorem l1Has_asD {B n c : Nat} {A : Option Addr} {zs : List Int} {x : Int} {r : Bool} (h : hasB zs x = r) (w : World) (hr : RdI w B A n zs) (hn : n < 1099511627776) :
    Calls Tryd.prog 40 #[.slice A n c, .int .i64 x] w fun e w' => e = .returned (.bool r) ∧ w = w' := by
  subst h; exact l1Has_any x w hr hn

set_option maxRecDepth 100000 in
set_option maxHeartbeats 16000000 in
theorem DrawViewMerge_any {a : Option Addr} {len cap : Nat} {cs : List Int} (w : World) (h : RowIs .u8 w a len cap cs) :
    Calls Tryd.prog 30 #[.slice a len cap] w (DTwoV w) := by
  obtain ⟨w0, hw0⟩ : ∃ W, (w.alloc (.cells vz 25)).alloc (.cells vz 25) = W := ⟨_, rfl⟩
  have h0 := hid (show RowIs .u8 w0 a len cap cs by rw [← hw0]; exact (h.allocV _).allocV _)
  have hZ := hid (show Cs w0 w.heap.size 25 vz by rw [← hw0]; exact (Cs.new _ _ _).alloc _)
  have hY := hid (show Cs w0 (w.heap.size + 1) 25 vz by rw [← hw0]; exact Cs.new' _ _ _ (by simp))
  have hB := hid (show Below w.heap.size w w0 by rw [← hw0]; exact below2 _ _ _)
  have hz := hid (show w.heap.size + 1 < w0.heap.size from hY.out.lt)
  replace hw0 := hid hw0
  clear h
  go_enter Tryd.func30, Tryd.ntmps30
  go_upto_region 1 with (fail)
  rw [hw0.out]
  go_wp2_with fail
  refine (l6Open_any w0 h0.out).mono ?_
  rintro e w1 ⟨rfl, r1, hb1, hz1⟩
  have r1 := hid r1
  have hb1 := hid hb1
  have hgz := hid hz1
  clear h0 hz1
  go_wp2_with fail
  refine (l92View_any _ r1.out (by omega)).mono ?_
  rintro e w2 ⟨n, A, c, zs, rfl, ho, hl, r2, hg⟩
  have hz' := hz.out
  have hz9 : w0.heap.size < w1.heap.size := by have := hgz.out; omega
  obtain ⟨u, hu⟩ : ∃ u, w2.alloc (.cells #[.int .i64 n, .slice A zs.length c] 25) = u := ⟨_, rfl⟩
  have hZu := hid (show Cs u w.heap.size 25 vz by rw [← hu]; exact (grown_cs (hZ.out.step hb1.out) hg (by intro e; injection e with e; omega)).alloc _)
  have hYu := hid (show Cs u (w.heap.size + 1) 25 vz by rw [← hu]; exact (grown_cs (hY.out.step hb1.out) hg (by intro e; injection e with e; omega)).alloc _)
  have hBu := hid (show Below w.heap.size w u by rw [← hu]; exact ((hB.out.trans (hb1.out.mono (by omega))).grown hg (by have := hb1.out.size; omega) (fun k e => by injection e with e; omega)).alloc (by have := hb1.out.size; have := hg.size; omega) _)
  have hCu := hid (show Cs u w2.heap.size 25 #[.int .i64 n, .slice A zs.length c] by rw [← hu]; exact Cs.new _ _ _)
  have hOu := hid (show OwI u w1.heap.size (.slice A zs.length c) zs by rw [← hu]; exact ho.alloc_ _)
  have hRu := hid (show Rdr u w0.heap.size w0.heap.size 12 by rw [← hu]; exact (r2.le (by omega)).below (below1 _ _) r2.lt)
  have hw12 : w1.heap.size ≤ w2.heap.size := hg.size
  have hxu : w2.heap.size < u.heap.size := hCu.out.lt
  replace hu := hid hu
  clear ho hg r2 hZ hY hB hb1 r1
  go_upto_region 3 with (fail)
  rw [hu.out]
  go_wp2_with fail
  refine (l92View_any _ hRu.out (by omega)).mono ?_
  rintro e w4 ⟨k, A2, c2, ys, rfl, ho2, hl2, r4, hg4⟩
  obtain ⟨v, hv⟩ : ∃ u, w4.alloc (.cells #[.int .i64 k, .slice A2 ys.length c2] 25) = u := ⟨_, rfl⟩
  have hZv := hid (show Cs v w.heap.size 25 vz by rw [← hv]; exact (grown_cs hZu.out hg4 (by intro e; injection e with e; omega)).alloc _)
  have hYv := hid (show Cs v (w.heap.size + 1) 25 vz by rw [← hv]; exact (grown_cs hYu.out hg4 (by intro e; injection e with e; omega)).alloc _)
  have hBv := hid (show Below w.heap.size w v by rw [← hv]; exact (hBu.out.grown hg4 (by omega) (fun k e => by injection e with e; omega)).alloc (by have := hg4.size; omega) _)
  have hCv := hid (show Cs v w2.heap.size 25 #[.int .i64 n, .slice A zs.length c] by rw [← hv]; exact (grown_cs hCu.out hg4 (by intro e; injection e with e; omega)).alloc _)
  have hOv := hid (show OwI v w1.heap.size (.slice A zs.length c) zs by rw [← hv]; exact (hOu.out.pick hg4 hz9).alloc_ _)
  have hDv := hid (show Cs v w4.heap.size 25 #[.int .i64 k, .slice A2 ys.length c2] by rw [← hv]; exact Cs.new _ _ _)
  have hPv := hid (show OwI v u.heap.size (.slice A2 ys.length c2) ys by rw [← hv]; exact ho2.alloc_ _)
  have hRv := hid (show Rdr v w0.heap.size w0.heap.size 24 by rw [← hv]; exact (r4.le (by omega)).below (below1 _ _) r4.lt)
  have hw24 : u.heap.size ≤ w4.heap.size := hg4.size
  have hxv : w4.heap.size < v.heap.size := hDv.out.lt
  have hgl : w0.heap.size < v.heap.size := by omega
  obtain ⟨xb, hxb⟩ : ∃ b, w4.heap.size = b := ⟨_, rfl⟩
  rw [hxb] at hDv hw24 hxv
  replace hv := hid hv
  clear ho2 hg4 r4 hZu hYu hBu hCu hOu hRu
  go_upto_region 4 with (fail)
  rw [hv.out]
  try rw [hxb]
  clear hxb
  go_wp2_with fail
  refine (pick_any 3 v hRv.out (by omega) (by omega) (by omega)).mono ?_
  rintro e w5 ⟨y, rfl, hy0, hy1, r5, q5, -⟩
  have hZ5 := hid (grown_cs hZv.out q5 (by intro e; injection e with e; omega))
  have hY5 := hid (grown_cs hYv.out q5 (by intro e; injection e with e; omega))
  have hC5 := hid (grown_cs hCv.out q5 (by intro e; injection e with e; omega))
  have hD5 := hid (grown_cs hDv.out q5 (by intro e; injection e with e; omega))
  have hO5 := hid (hOv.out.pick q5 hz9)
  have hP5 := hid (hPv.out.pick q5 (by omega))
  have hB5 := hid (hBv.out.grown q5 (by omega) (fun k e => by injection e with e; omega))
  have hR5 := hid r5
  have hsz5 : v.heap.size ≤ w5.heap.size := q5.size
  clear r5 q5 hZv hYv hBv hCv hOv hDv hPv hRv
  go_upto_if 17 with (fail)
  go_cut [7] (fun o wx => ∃ (A2 : Option Addr) (c2 : Nat) (ys : List Int), Hid (Cs wx xb 25 #[.int .i64 k, .slice A2 ys.length c2]) ∧ Hid (OwI wx u.heap.size (.slice A2 ys.length c2) ys) ∧ Hid (Cs wx w2.heap.size 25 #[.int .i64 n, .slice A zs.length c]) ∧ Hid (OwI wx w1.heap.size (.slice A zs.length c) zs) ∧ Hid (Cs wx w.heap.size 25 vz) ∧ Hid (Cs wx (w.heap.size + 1) 25 vz) ∧ Hid (Below w.heap.size w wx) ∧ ys.length ≤ 9)
  case first =>
    by_cases hy : y > 0
    · have hD0 := hid (show Dm w5 (w5.alloc (.cells #[] 3)) w0.heap.size w0.heap.size 25 (.slice (some ⟨w5.heap.size, 0, none⟩) 0 0) [] from ⟨World.grownBy_alloc w5 _ _, hR5.out.below (below1 _ _) (by omega), OwI.lit0 w5 rfl⟩)
      have hgl5 : w0.heap.size < w5.heap.size := by omega
      go_wp2
      first | rw [decide_eq_true (show 0 < y from hy)] | rw [decide_eq_true (show y > 0 from hy)]
      go_loopw [7, 8] (fun o i wr => ∃ (q : Nat) (os : List Int), q ≤ 8 ∧ i = .int .i64 q ∧ Hid (Dm w5 wr w0.heap.size w0.heap.size (25 + q) o os) ∧ Hid (os.length ≤ q)) (fun _ i _ => 8 - (intOf i).toNat)
      case atStart => exact ⟨0, [], by omega, rfl, hD0, hid (by simp)⟩
      case round =>
        obtain ⟨q, os, hq, rfl, hD, hol⟩ := hrel
        clear hD0
        obtain ⟨A7, c7, e0, -⟩ := hD.out.ow.form
        subst e0
        have hol' := hol.out
        have hX := hid (grown_cs hC5.out hD.out.gr (by intro e; injection e with e; omega))
        have hO := hid (hO5.out.pick hD.out.gr hz9)
        obtain ⟨x0, x1, -, -⟩ := hX.out.two
        by_cases hlt : q < 8
        · have hlti : (q : Int) < 8 := by omega
          have hrd := hid hO.out.rdM
          cases hh : hasB zs (q : Int) with
          | true =>
            replace hh := hid hh
            go_wp2_with (go_at_call 40; (with_reducible refine (l1Has_asD hh.out _ hrd.out (by omega)).mono ?_); rintro e w9 ⟨rfl, rfl⟩)
            go_roundw
            case rel => exact ⟨q + 1, os, by omega, by go_num, hid (hD.out.le (by omega)), hid (by omega)⟩
            case measure => simp [intOf]; omega
          | false =>
            replace hh := hid hh
            go_wp2_with (go_at_call 40; (with_reducible refine (l1Has_asD hh.out _ hrd.out (by omega)).mono ?_); rintro e w9 ⟨rfl, rfl⟩)
            refine (pick_any 3 wr hD.out.rd (by omega) (by omega) (by omega)).mono ?_
            rintro e w6 ⟨z, rfl, hz0, hz1, r6, q6, -⟩
            have hD6 := hid (hD.out.pick q6 hgl5 r6)
            clear hD r6 q6 hX x0 x1 hO hrd
            by_cases hzp : z > 0
            · have hD7 := hid (hD6.out.below (below1 w6 (.cells #[.int .i64 (q : Int)] 3)))
              have hc7 : Hid (Cs (w6.alloc (.cells #[.int .i64 (q : Int)] 3)) w6.heap.size 3 #[.int .i64 (q : Int)]) := hid (Cs.new _ _ _)
              have hz7 : w5.heap.size ≤ (w6.alloc (.cells #[.int .i64 (q : Int)] 3)).heap.size := hD7.out.gr.size
              go_wp2_with (at_builtin; refine wpList_app1G rfl (.tmp 33) (.tmp 35) rfl (B := w5.heap.size) rfl rfl hc7.out hD7.out.ow hz7 (by omega) ?_; intro v7 w7 ho7 hg7; obtain ⟨Y, hY⟩ : ∃ Y, os ++ [(q : Int)] = Y := ⟨_, rfl⟩; rw [hY] at ho7; have hYl := hid (show Y.length = os.length + 1 by rw [← hY]; simp); clear hY; obtain ⟨A8, c8, rfl, -⟩ := ho7.form; have hD8 := hid (hD7.out.app hg7 hgl5 ho7); clear ho7 hg7)
              go_roundw
              case rel => exact ⟨q + 1, _, by omega, by go_num, hid (hD8.out.le (by omega)), hid (by rw [hYl.out]; omega)⟩
              case measure => simp [intOf]; omega
            · go_wp2
              go_roundw
              case rel => exact ⟨q + 1, os, by omega, by go_num, hid (hD6.out.le (by omega)), hid (by omega)⟩
              case measure => simp [intOf]; omega
        · have hlti : ¬ (q : Int) < 8 := by omega
          have hS := hid (grown_cs hD5.out hD.out.gr (by intro e; injection e with e; omega))
          have hT := hid (grown_cs hZ5.out hD.out.gr (by intro e; injection e with e; omega))
          have hU := hid (grown_cs hY5.out hD.out.gr (by intro e; injection e with e; omega))
          have hBr := hid (hB5.out.grown hD.out.gr (by omega) (fun k e => by injection e with e; omega))
          obtain ⟨s0, s1, s2, s3⟩ := hS.out.two
          clear x0 x1
          go_wp2
          go_meet
          exact ⟨A7, c7, os, hid (hS.out.set 1 _), hid ((OwI.more (OwI.setY (p := ⟨xb, 1, none⟩) hD.out.ow (by exact cs_type hS.out hD.out.ow (by decide)) _) (by omega))), hid (hX.out.far (p := ⟨xb, 1, none⟩) (by show w2.heap.size ≠ xb; omega) _), hid (OwI.setY (p := ⟨xb, 1, none⟩) hO.out (by exact cs_type hS.out hO.out (by decide)) _), hid (hT.out.far (p := ⟨xb, 1, none⟩) (by show w.heap.size ≠ xb; omega) _), hid (hU.out.far (p := ⟨xb, 1, none⟩) (by show w.heap.size + 1 ≠ xb; omega) _), hid (hBr.out.setCell (p := ⟨xb, 1, none⟩) (by show w.heap.size ≤ xb; omega) _), by omega⟩
    · go_wp2
      go_meet
      exact ⟨A2, c2, ys, hD5, hP5, hC5, hO5, hZ5, hY5, hB5, hl2⟩
  case rest =>
    clear hD5 hP5 hC5 hO5 hZ5 hY5 hB5 hl2
    obtain ⟨A2, c2, ys, hD, hP, hC, hO, hZ, hY, hB, hl2⟩ := hcut
    obtain ⟨f1, f2⟩ := hZ.out.fillV hB.out (Nat.le_refl _) (.int .i64 n) (.slice A zs.length c)
    have hY1 := (hY.out.far (p := ⟨w.heap.size, 0, none⟩) (by simp) (.int .i64 n)).far (p := ⟨w.heap.size, 1, none⟩) (by simp) (.slice A zs.length c)
    obtain ⟨f3, f4⟩ := hY1.fillV f2 (Nat.le_succ _) (.int .i64 k) (.slice A2 ys.length c2)
    replace f4 := hid f4
    have r0 := ((f1.far (p := ⟨w.heap.size + 1, 0, none⟩) (by simp) (.int .i64 k)).far (p := ⟨w.heap.size + 1, 1, none⟩) (by simp) (.slice A2 ys.length c2)).cell 0
    have r1 := ((f1.far (p := ⟨w.heap.size + 1, 0, none⟩) (by simp) (.int .i64 k)).far (p := ⟨w.heap.size + 1, 1, none⟩) (by simp) (.slice A2 ys.length c2)).cell 1
    have s0 := f3.cell 0
    have s1 := f3.cell 1
    have g1 := hid (OwI.more (hO.out.fill2V hZ.out hY.out (.int .i64 n) (.slice A zs.length c) (.int .i64 k) (.slice A2 ys.length c2)) (show w.heap.size ≤ w1.heap.size by omega))
    have g2 := hid (OwI.more (hP.out.fill2V hZ.out hY.out (.int .i64 n) (.slice A zs.length c) (.int .i64 k) (.slice A2 ys.length c2)) (show w.heap.size ≤ u.heap.size by omega))
    obtain ⟨q40, q41, -, -⟩ := hC.out.two
    obtain ⟨q50, q51, -, -⟩ := hD.out.two
    have k50 := ((hD.out.far (p := ⟨w.heap.size, 0, none⟩) (by show xb ≠ w.heap.size; omega) (.int .i64 n))).two.1
    have k51 := ((hD.out.far (p := ⟨w.heap.size, 0, none⟩) (by show xb ≠ w.heap.size; omega) (.int .i64 n))).two.2.1
    have k52 := ((hD.out.far (p := ⟨w.heap.size, 0, none⟩) (by show xb ≠ w.heap.size; omega) (.int .i64 n)).far (p := ⟨w.heap.size, 1, none⟩) (by show xb ≠ w.heap.size; omega) (.slice A zs.length c)).two.1
    have k53 := ((hD.out.far (p := ⟨w.heap.size, 0, none⟩) (by show xb ≠ w.heap.size; omega) (.int .i64 n)).far (p := ⟨w.heap.size, 1, none⟩) (by show xb ≠ w.heap.size; omega) (.slice A zs.length c)).two.2.1
    have x0 := (hZ.out.set 0 (.int .i64 n)).cell 0
    have x1 := (hY.out.set 0 (.int .i64 k)).cell 0
    obtain ⟨y0, y1, y2, y3⟩ := hZ.out.two
    obtain ⟨z0, z1, z2, z3⟩ := hY.out.two
    clear f1 f2 f3 hY1 hD hP hC hO hZ hY hB
    go_wp2
    go_region
    all_goals go_wp2
    all_goals
      refine bodyPost_ret (v := .tuple #[vwV n (.slice A zs.length c), vwV k (.slice A2 ys.length c2)]) (by simp [results, Tryd.results30, go_sem, r0, r1, s0, s1, x0, x1]) rfl ?_
      exact ⟨n, A, c, zs, k, A2, c2, ys, rfl, g1.out, g2.out, hl, hl2, f4.out.drew⟩
end Go.Proofs.YtppdfgifnmfioaaDoor
