/-
  The draw of a transaction of chapter 31: l92Txn: a transaction of any kind in memory of its own. No condition but a reader with room.
-/
import Derived.Test.YteagmkhpfmiaiaaSwQ
namespace Go.Proofs.Yteagmkhpfmiaiaa
open Go.RowKit
set_option linter.unusedVariables false
set_option linter.unusedSimpArgs false

set_option maxRecDepth 100000 in
set_option maxHeartbeats 16000000 in
theorem l92Txn_any {B g P : Nat} (w : World) (h : Rdr w B g P) (hP : P ≤ 900000) :
    Calls Try.prog 43 #[.pointer (some ⟨g, 0, none⟩)] w (TPost B g (P + 52) w) := by
  have hgl := h.lt
  obtain ⟨w0, hw0⟩ : ∃ W, (w.alloc (.cells #[.slice none 0 0, .int .i64 0, .slice none 0 0] 26)) = W := ⟨_, rfl⟩
  have hz : w0.heap.size = w.heap.size + 1 := by rw [← hw0]; simp
  have h0 := hid (show Dg w (w0.alloc (.cells #[] 3)) B g P by rw [← hw0]; exact ⟨grown_below (World.grownBy_alloc w _ _) (below1 _ _ |>.mono (by simp)), h.below (below2 _ _ _) hgl⟩)
  have hR0 := hid (show Cs (w0.alloc (.cells #[] 3)) w.heap.size 26 #[.slice none 0 0, .int .i64 0, .slice none 0 0] by rw [← hw0]; exact (Cs.new _ _ _).alloc _)
  have hI0 := hid (show OwI (w0.alloc (.cells #[] 3)) (w.heap.size + 1) (.slice (some ⟨w0.heap.size, 0, none⟩) 0 0) [] from OwI.emptyS rfl (by omega))
  have hz0 := hid (show (w0.alloc (.cells #[] 3)).heap.size = w.heap.size + 2 by simp [hz])
  replace hz := hid hz
  replace hw0 := hid hw0
  clear h
  go_enter Try.func43, Try.ntmps43
  go_upto_region 1 with (fail)
  rw [hw0.out]
  go_wp2_with fail
  refine (pick_any 40 _ h0.out.rd (by omega) (by omega) (by omega)).mono ?_
  rintro e w1 ⟨n1, rfl, hn0, hn1, r1, q1, s1⟩
  have hD1 := hid (h0.out.pick q1 r1)
  have hR1 := hid (grown_cs hR0.out q1 (fun e => by injection e with e; omega))
  have hI1 := hid (hI0.out.pick q1 (by omega))
  have hz1 := hid (s1.trans hz0.out)
  clear h0 hR0 hI0 r1 q1 s1 hz0
  go_wp2_with fail
  refine (pick_any 2 w1 hD1.out.rd (by omega) (by omega) (by omega)).mono ?_
  rintro e w2 ⟨n2, rfl, hm0, hm1, r2, q2, s2⟩
  have hD2 := hid (hD1.out.pick q2 r2)
  have hR2 := hid (grown_cs hR1.out q2 (fun e => by injection e with e; omega))
  have hI2 := hid (hI1.out.pick q2 (by omega))
  have hz2 := hid (s2.trans hz1.out)
  clear hD1 hR1 hI1 r2 q2 s2 hz1
  have hmb : 0 ≤ n1 * n2 ∧ n1 * n2 ≤ 40 := by
    have : n2 = 0 ∨ n2 = 1 := by omega
    rcases this with rfl | rfl <;> omega
  have hw : IntKind.i64.wrap (n1 * n2) = n1 * n2 := IntWalk.i64_in _ (by omega)
  obtain ⟨W, hW⟩ : ∃ W, (w2.alloc (.cells #[] 33)).alloc (.cells #[.slice (some ⟨w0.heap.size, 0, none⟩) 0 0, .int .i64 (n1 * n2), .slice (some ⟨w2.heap.size, 0, none⟩) 0 0] 26) = W := ⟨_, rfl⟩
  have hz2' := hz2.out
  have hbW : Below w2.heap.size w2 W := by rw [← hW]; exact below2 _ _ _
  have hD := hid (show Dt w W B g (P + 2) (w2.heap.size + 1) (.slice (some ⟨w0.heap.size, 0, none⟩) 0 0) (n1 * n2) (.slice (some ⟨w2.heap.size, 0, none⟩) 0 0) [] [] from
    ⟨by rw [← hW]; exact Cs.new' _ _ _ (by simp), hR2.out.step hbW, hI2.out.stepS hbW, by rw [← hW]; exact ((OwP.empty_lit w2 (Nat.le_refl _)).below (below1 _ _)).more (by omega), by omega, hD2.out.below hgl (hbW.mono (by omega))⟩)
  replace hW := hid hW
  clear hD2 hR2 hI2 hbW hz2'
  go_upto_region 2 with (fail)
  rw [hW.out]
  generalize n1 * n2 = mm at hD ⊢
  obtain ⟨xb, hxb⟩ : ∃ b, w2.heap.size + 1 = b := ⟨_, rfl⟩
  rw [hxb] at hD
  try rw [hxb]
  clear hW hw hw0
  go_wp2
  go_loopw [4] (fun i wr => ∃ (k : Nat) (R Pv : Value) (m : Int) (gs : List Int) (xs : List (Int × Int)), k ≤ 15 ∧ i = .int .i64 k ∧ Hid (Dt w wr B g (P + 2 + 3 * k) xb R m Pv gs xs) ∧ Hid (gs.length ≤ k) ∧ Hid (xs.length ≤ k)) (fun i _ => 15 - (intOf i).toNat)
  case atStart => exact ⟨0, _, _, _, [], [], by omega, rfl, hid (by simpa using hD.out), hid (by simp), hid (by simp)⟩
  case round =>
    obtain ⟨k, R, Pv, m, gs, xs, hk, rfl, hDr, hgl1, hxl1⟩ := hrel
    have hg1 := hgl1.out
    have hx1 := hxl1.out
    clear hD hgl1 hxl1
    by_cases hlt : k < 15
    · go_wp2_with fail
      refine (pick_any 7 wr hDr.out.dg.rd (by omega) (by omega) (by omega)).mono ?_
      rintro e w5 ⟨y, rfl, hy0, hy1, r5, q5, -⟩
      have hD5 := hid (hDr.out.pick hgl q5 r5)
      clear hDr r5 q5
      by_cases hy : y = 0
      · have hyb : (y == 0) = true := by simp [hy]
        obtain ⟨d0, d1, d2⟩ := hD5.out.cs.tri
        have df := hD5.out.cs.triF
        go_wp2_with (at_builtin; refine wpList_app1G rfl (.tmp 21) (.tmp 23) rfl (w.heap.size + 1) (k : Int) _ _ rfl rfl hD5.out.oi hD5.out.room (by omega) ?_; intro v7 w7 ho7 hg7 hv7; obtain ⟨Y, hY⟩ : ∃ Y, gs ++ [(k : Int)] = Y := ⟨_, rfl⟩; rw [hY] at ho7; have hYl := hid (show Y.length = gs.length + 1 by simp [← hY]); clear hY; obtain ⟨A7, c7, rfl, -⟩ := ho7.form; have hk7 := hid (hD5.out.keepR hgl hg7); have hD7 := hid (hD5.out.appR hgl hg7 ho7); obtain ⟨e0, e1, e2⟩ := hk7.out.1.tri; obtain ⟨f0, f1, f2⟩ := hk7.out.1.triF; clear ho7 hg7 hv7)
        try clear e0; try clear e1; try clear e2; try clear f0; try clear f1; try clear f2; try clear d0; try clear d1; try clear d2; try clear df; try clear hk7; try clear hD5
        refine (pick_any 7 _ hD7.out.dg.rd (by omega) (by omega) (by omega)).mono ?_
        rintro e w8 ⟨u, rfl, hu0, hu1, r8, q8, -⟩
        have hD8 := hid (hD7.out.pick hgl q8 r8)
        clear hD7 r8 q8
        obtain ⟨A1, c1, A2, c2, e1, e2⟩ := hD8.out.form
        (first | subst e1 | clear e1)
        subst e2
        by_cases hu : u = 0
        · have hub : (u == 0) = true := by simp [hu]
          have hDd := hid (hD8.out.below hgl (Below.refl _ w8).drew)
          obtain ⟨d0, d1, d2⟩ := hD8.out.cs.tri
          obtain ⟨b0, b1, b2⟩ := hDd.out.cs.tri
          have hgw8 : g < w8.heap.size := hD8.out.dg.rd.lt
          go_wp2_with fail
          go_region_law (first | (go_simp; go_at_call 65; (with_reducible refine (pick_any 21 _ hDd.out.dg.rd (by omega) (by omega) (by omega)).mono ?_); rintro e w9 ⟨x, rfl, hx0, hx1, r9, q9, -⟩; have hD9 := hid (hDd.out.pick hgl q9 r9); have hw2 : IntKind.i64.wrap (x - 5) = x - 5 := IntWalk.i64_in _ (by omega); obtain ⟨s0, s1, s2⟩ := hD9.out.cs.tri; have hDa := hid (hD9.out.below hgl (below1 w9 (.cells #[.int .i64 (k : Int), .int .i64 (x - 5)] 33))); obtain ⟨m0, m1, m2⟩ := hDa.out.cs.tri; have hza := hDa.out.room; have hna : Hid (xs.length + 1 < 1099511627776) := hid (by omega); clear r9 q9) | (refine step_appPv rfl und_put (.tmp 30) (.tmp 36) rfl (B := w.heap.size + 1) (v := .slice A2 xs.length c2) (zs := xs) (ys := [((k : Int), x - 5)]) (m := 1) rfl rfl hDa.out.op (RdP.of_cs (Cs.new w9 _ _)) hza hna.out ?_; intro vb wb hob hgb hvb; obtain ⟨Y2, hY2⟩ : ∃ Y, xs ++ [((k : Int), x - 5)] = Y := ⟨_, rfl⟩; rw [hY2] at hob; have hYl2 : Hid (Y2.length = xs.length + 1) := hid (by simp [← hY2]); clear hY2; obtain ⟨A, c, rfl, -⟩ := hob.form; have hkb := hid (hDa.out.keepP hgl hgb); have hDb := hid (hDa.out.appP hgl hgb hob); obtain ⟨e0, e1, e2⟩ := hkb.out.1.tri; obtain ⟨f0, f1, f2⟩ := hkb.out.1.triF; clear hob hgb hvb))
          all_goals
            try clear e0; try clear e1; try clear e2; try clear f0; try clear f1; try clear f2; try clear m0; try clear m1; try clear m2; try clear s0; try clear s1; try clear s2; try clear d0; try clear d1; try clear d2; try clear b0; try clear b1; try clear b2; try clear hkb; try clear hDa; try clear hD9; try clear hDd; try clear hD8
            go_wp2
            go_roundw
            case rel => exact ⟨k + 1, _, _, _, _, _, by omega, by go_num, hid (hDb.out.le (by omega)), hid (by rw [hYl.out]; omega), hid (by rw [hYl2.out]; omega)⟩
            case measure => simp [intOf]; omega
        · have hub : (u == 0) = false := by simp [hu]
          go_wp2
          go_roundw
          case rel => exact ⟨k + 1, _, _, _, _, _, by omega, by go_num, hid (hD8.out.le (by omega)), hid (by rw [hYl.out]; omega), hid (by omega)⟩
          case measure => simp [intOf]; omega
      · have hyb : (y == 0) = false := by simp [hy]
        go_wp2_with fail
        refine (pick_any 7 _ hD5.out.dg.rd (by omega) (by omega) (by omega)).mono ?_
        rintro e w8 ⟨u, rfl, hu0, hu1, r8, q8, -⟩
        have hD8 := hid (hD5.out.pick hgl q8 r8)
        clear hD5 r8 q8
        obtain ⟨A1, c1, A2, c2, e1, e2⟩ := hD8.out.form
        (first | subst e1 | clear e1)
        subst e2
        by_cases hu : u = 0
        · have hub : (u == 0) = true := by simp [hu]
          have hDd := hid (hD8.out.below hgl (Below.refl _ w8).drew)
          obtain ⟨d0, d1, d2⟩ := hD8.out.cs.tri
          obtain ⟨b0, b1, b2⟩ := hDd.out.cs.tri
          have hgw8 : g < w8.heap.size := hD8.out.dg.rd.lt
          go_wp2_with fail
          go_region_law (first | (go_simp; go_at_call 65; (with_reducible refine (pick_any 21 _ hDd.out.dg.rd (by omega) (by omega) (by omega)).mono ?_); rintro e w9 ⟨x, rfl, hx0, hx1, r9, q9, -⟩; have hD9 := hid (hDd.out.pick hgl q9 r9); have hw2 : IntKind.i64.wrap (x - 5) = x - 5 := IntWalk.i64_in _ (by omega); obtain ⟨s0, s1, s2⟩ := hD9.out.cs.tri; have hDa := hid (hD9.out.below hgl (below1 w9 (.cells #[.int .i64 (k : Int), .int .i64 (x - 5)] 33))); obtain ⟨m0, m1, m2⟩ := hDa.out.cs.tri; have hza := hDa.out.room; have hna : Hid (xs.length + 1 < 1099511627776) := hid (by omega); clear r9 q9) | (refine step_appPv rfl und_put (.tmp 30) (.tmp 36) rfl (B := w.heap.size + 1) (v := .slice A2 xs.length c2) (zs := xs) (ys := [((k : Int), x - 5)]) (m := 1) rfl rfl hDa.out.op (RdP.of_cs (Cs.new w9 _ _)) hza hna.out ?_; intro vb wb hob hgb hvb; obtain ⟨Y2, hY2⟩ : ∃ Y, xs ++ [((k : Int), x - 5)] = Y := ⟨_, rfl⟩; rw [hY2] at hob; have hYl2 : Hid (Y2.length = xs.length + 1) := hid (by simp [← hY2]); clear hY2; obtain ⟨A, c, rfl, -⟩ := hob.form; have hkb := hid (hDa.out.keepP hgl hgb); have hDb := hid (hDa.out.appP hgl hgb hob); obtain ⟨e0, e1, e2⟩ := hkb.out.1.tri; obtain ⟨f0, f1, f2⟩ := hkb.out.1.triF; clear hob hgb hvb))
          all_goals
            try clear e0; try clear e1; try clear e2; try clear f0; try clear f1; try clear f2; try clear m0; try clear m1; try clear m2; try clear s0; try clear s1; try clear s2; try clear d0; try clear d1; try clear d2; try clear b0; try clear b1; try clear b2; try clear hkb; try clear hDa; try clear hD9; try clear hDd; try clear hD8
            go_wp2
            go_roundw
            case rel => exact ⟨k + 1, _, _, _, _, _, by omega, by go_num, hid (hDb.out.le (by omega)), hid (by omega), hid (by rw [hYl2.out]; omega)⟩
            case measure => simp [intOf]; omega
        · have hub : (u == 0) = false := by simp [hu]
          go_wp2
          go_roundw
          case rel => exact ⟨k + 1, _, _, _, _, _, by omega, by go_num, hid (hD8.out.le (by omega)), hid (by omega), hid (by omega)⟩
          case measure => simp [intOf]; omega
    · obtain rfl : k = 15 := by omega
      go_wp2_with fail
      refine (pick_any 24 wr hDr.out.dg.rd (by omega) (by omega) (by omega)).mono ?_
      rintro e w5 ⟨y, rfl, hy0, hy1, r5, q5, -⟩
      have hD5 := hid (hDr.out.pick hgl q5 r5)
      clear hDr r5 q5
      obtain ⟨A1, c1, A2, c2, e1, e2⟩ := hD5.out.form
      subst e1; subst e2
      have hgw5 : g < w5.heap.size := hD5.out.dg.rd.lt
      go_upto_block 2 with (fail)
      go_cut [] (fun wx => ∃ (R Pv : Value) (m' : Int) (gs' : List Int) (xs' : List (Int × Int)), gs'.length ≤ 16 ∧ xs'.length ≤ 16 ∧ Hid (Dt w wx B g (P + 52) xb R m' Pv gs' xs'))
      case first =>
       rcases (show y = 0 ∨ y = 1 ∨ y = 2 ∨ 3 ≤ y by omega) with rfl | rfl | rfl | hy3
       · have hD6 := hid (hD5.out.below hgl (below1 w5 (.cells #[.int .i64 (-1), .int .i64 14985, .int .i64 14986] 3)))
         have hC6 : Hid (Cs (w5.alloc (.cells #[.int .i64 (-1), .int .i64 14985, .int .i64 14986] 3)) w5.heap.size 3 #[.int .i64 (-1), .int .i64 14985, .int .i64 14986]) := hid (Cs.new _ _ _)
         clear hD5
         go_wp2_with fail
         refine (pick_any 3 _ hD6.out.dg.rd (by omega) (by omega) (by omega)).mono ?_
         rintro e w8 ⟨j, rfl, hj0, hj1, r8, q8, -⟩
         have hD8 := hid (hD6.out.pick hgl q8 r8)
         have hC8 := hid (grown_cs hC6.out q8 (fun e => by injection e with e; omega))
         obtain ⟨j, rfl⟩ := Int.eq_ofNat_of_zero_le hj0
         obtain ⟨z, hz⟩ : ∃ z, w8.cell? ⟨w5.heap.size, j, none⟩ = some (.int .i64 z) := by
           rw [hC8.out.cell]
           have : j = 0 ∨ j = 1 ∨ j = 2 := by omega
           rcases this with rfl | rfl | rfl <;> exact ⟨_, rfl⟩
         have j1 : (j : Int) < 3 := by omega
         obtain ⟨d0, d1, d2⟩ := hD8.out.cs.tri
         obtain ⟨g0, g1, g2⟩ := hD8.out.cs.triF
         have hD9 := hid (hD8.out.putM hgl z)
         clear hD6 hC6 r8 q8 hC8 hD8
         go_wp2
         go_meet
         exact ⟨_, _, _, _, _, by omega, by omega, hid (hD9.out.le (show _ ≤ P + 52 by omega))⟩
       · have hDd := hid (hD5.out.below hgl (Below.refl _ w5).drew)
         obtain ⟨d0, d1, d2⟩ := hD5.out.cs.tri
         obtain ⟨b0, b1, b2⟩ := hDd.out.cs.tri
         go_wp2_with fail
         go_region_law (first | (go_simp; go_at_call 65; (with_reducible refine (pick_any 17 _ hDd.out.dg.rd (by omega) (by omega) (by omega)).mono ?_); rintro e w9 ⟨x, rfl, hx0, hx1', r9, q9, -⟩; have hD9 := hid (hDd.out.pick hgl q9 r9); have hw2 : IntKind.i64.wrap (x - 1) = x - 1 := IntWalk.i64_in _ (by omega); obtain ⟨s0, s1, s2⟩ := hD9.out.cs.tri; have hDa := hid (hD9.out.below hgl (below1 w9 (.cells #[.int .i64 (x - 1)] 3))); obtain ⟨m0, m1, m2⟩ := hDa.out.cs.tri; have hza := hDa.out.room; have hna : Hid (gs.length + 1 < 1099511627776) := hid (by omega); clear r9 q9) | (refine step_appV rfl (.tmp 52) (.tmp 56) rfl (B := w.heap.size + 1) (v := .slice A1 gs.length c1) (zs := gs) (ys := [x - 1]) (m := 1) rfl rfl hDa.out.oi ⟨_, RdI.of_cs (Cs.new w9 _ _)⟩ hza hna.out ?_; intro vb wb hob hgb hvb; obtain ⟨Y2, hY2⟩ : ∃ Y, gs ++ [x - 1] = Y := ⟨_, rfl⟩; rw [hY2] at hob; have hYl2 : Hid (Y2.length = gs.length + 1) := hid (by simp [← hY2]); clear hY2; obtain ⟨A, c, rfl, -⟩ := hob.form; have hkb := hid (hDa.out.keepR hgl hgb); have hDb := hid (hDa.out.appR hgl hgb hob); obtain ⟨e0, e1, e2⟩ := hkb.out.1.tri; obtain ⟨f0, f1, f2⟩ := hkb.out.1.triF; clear hob hgb hvb))
         all_goals
           try clear e0; try clear e1; try clear e2; try clear f0; try clear f1; try clear f2; try clear m0; try clear m1; try clear m2; try clear s0; try clear s1; try clear s2; try clear d0; try clear d1; try clear d2; try clear b0; try clear b1; try clear b2; try clear hkb; try clear hDa; try clear hD9; try clear hDd; try clear hD5
           go_wp2
           go_meet
           exact ⟨_, _, _, _, _, by rw [hYl2.out]; omega, by omega, hid (hDb.out.le (show _ ≤ P + 52 by omega))⟩
       · have hDd := hid (hD5.out.below hgl (Below.refl _ w5).drew)
         obtain ⟨d0, d1, d2⟩ := hD5.out.cs.tri
         obtain ⟨b0, b1, b2⟩ := hDd.out.cs.tri
         have hDe := hid ((hD5.out.below hgl (below1 w5 (.cells #[.int .i64 999, .int .i64 1000, .int .i64 (-1000), .int .i64 (-999)] 3))).below hgl (Below.refl _ (w5.alloc (.cells #[.int .i64 999, .int .i64 1000, .int .i64 (-1000), .int .i64 (-999)] 3))).drew)
         have hCe : Hid (Cs (w5.alloc (.cells #[.int .i64 999, .int .i64 1000, .int .i64 (-1000), .int .i64 (-999)] 3)).drew w5.heap.size 3 #[.int .i64 999, .int .i64 1000, .int .i64 (-1000), .int .i64 (-999)]) := hid (Cs.new w5 _ _)
         obtain ⟨o0, o1, o2⟩ := hDe.out.cs.tri
         go_wp2_with fail
         go_region_law (first | (go_simp; go_at_call 65; (with_reducible refine (pick_any 17 _ hDd.out.dg.rd (by omega) (by omega) (by omega)).mono ?_); rintro e w9 ⟨x, rfl, hx0, hx1', r9, q9, -⟩; have hD9 := hid (hDd.out.pick hgl q9 r9); have hw2 : IntKind.i64.wrap (x - 1) = x - 1 := IntWalk.i64_in _ (by omega); obtain ⟨s0, s1, s2⟩ := hD9.out.cs.tri; have hgw9 : g < w9.heap.size := hD9.out.dg.rd.lt; have hDl := hid (hD9.out.below hgl (below1 w9 (.cells #[.int .i64 999, .int .i64 1000, .int .i64 (-1000), .int .i64 (-999)] 3))); have hCl : Hid (Cs (w9.alloc (.cells #[.int .i64 999, .int .i64 1000, .int .i64 (-1000), .int .i64 (-999)] 3)) w9.heap.size 3 #[.int .i64 999, .int .i64 1000, .int .i64 (-1000), .int .i64 (-999)]) := hid (Cs.new _ _ _); obtain ⟨l0, l1, l2⟩ := hDl.out.cs.tri; clear r9 q9) | (go_simp; go_at_call 65; (with_reducible refine (pick_any 17 _ hDe.out.dg.rd (by omega) (by omega) (by omega)).mono ?_); rintro e w9 ⟨x, rfl, hx0, hx1', r9, q9, -⟩; have hD9 := hid (hDe.out.pick hgl q9 r9); have hw2 : IntKind.i64.wrap (x - 1) = x - 1 := IntWalk.i64_in _ (by omega); obtain ⟨s0, s1, s2⟩ := hD9.out.cs.tri; have hgw9 : g < w9.heap.size := hD9.out.dg.rd.lt; have hC9 := hid (grown_cs hCe.out q9 (fun e => (by (injection e with e; omega)))); clear r9 q9) | (go_simp; go_at_call 65; (with_reducible refine (pick_any 4 _ hDl.out.dg.rd (by omega) (by omega) (by omega)).mono ?_); rintro e w10 ⟨j, rfl, hj0, hj1, r10, q10, -⟩; have hDm := hid (hDl.out.pick hgl q10 r10); have hCn := hid (grown_cs hCl.out q10 (fun e => (by (injection e with e; omega)))); have hDn := hDm; obtain ⟨k0, k1, k2⟩ := hDm.out.cs.tri; obtain ⟨j, rfl⟩ := Int.eq_ofNat_of_zero_le hj0; obtain ⟨z, hz⟩ := lit4 hCn.out (show j < 4 by omega); have j1 : (j : Int) < 4 := (by omega); have hDa := hid (hDn.out.below hgl (below1 _ (.cells #[.int .i64 (x - 1), .int .i64 z] 33))); obtain ⟨m0, m1, m2⟩ := hDa.out.cs.tri; have hza := hDa.out.room; have hna : Hid (xs.length + 1 < 1099511627776) := hid (by omega); clear r10 q10) | (go_simp; go_at_call 65; (with_reducible refine (pick_any 4 _ hD9.out.dg.rd (by omega) (by omega) (by omega)).mono ?_); rintro e w10 ⟨j, rfl, hj0, hj1, r10, q10, -⟩; have hDm := hid (hD9.out.pick hgl q10 r10); have hCn := hid (grown_cs hC9.out q10 (fun e => (by (injection e with e; omega)))); have hDn := hDm; obtain ⟨k0, k1, k2⟩ := hDm.out.cs.tri; obtain ⟨j, rfl⟩ := Int.eq_ofNat_of_zero_le hj0; obtain ⟨z, hz⟩ := lit4 hCn.out (show j < 4 by omega); have j1 : (j : Int) < 4 := (by omega); have hDa := hid (hDn.out.below hgl (below1 _ (.cells #[.int .i64 (x - 1), .int .i64 z] 33))); obtain ⟨m0, m1, m2⟩ := hDa.out.cs.tri; have hza := hDa.out.room; have hna : Hid (xs.length + 1 < 1099511627776) := hid (by omega); clear r10 q10) | (go_simp; go_at_call 65; (with_reducible refine (pick_any 4 _ hD9.out.dg.rd (by omega) (by omega) (by omega)).mono ?_); rintro e w10 ⟨j, rfl, hj0, hj1, r10, q10, -⟩; have hDm := hid (hD9.out.pick hgl q10 r10); obtain ⟨k0, k1, k2⟩ := hDm.out.cs.tri; have hDn := hid (hDm.out.below hgl (below1 w10 (.cells #[.int .i64 999, .int .i64 1000, .int .i64 (-1000), .int .i64 (-999)] 3))); have hCn : Hid (Cs (w10.alloc (.cells #[.int .i64 999, .int .i64 1000, .int .i64 (-1000), .int .i64 (-999)] 3)) w10.heap.size 3 #[.int .i64 999, .int .i64 1000, .int .i64 (-1000), .int .i64 (-999)]) := hid (Cs.new _ _ _); obtain ⟨n0, n1', n2'⟩ := hDn.out.cs.tri; obtain ⟨j, rfl⟩ := Int.eq_ofNat_of_zero_le hj0; obtain ⟨z, hz⟩ := lit4 hCn.out (show j < 4 by omega); have j1 : (j : Int) < 4 := (by omega); have hDa := hid (hDn.out.below hgl (below1 _ (.cells #[.int .i64 (x - 1), .int .i64 z] 33))); obtain ⟨m0, m1, m2⟩ := hDa.out.cs.tri; have hza := hDa.out.room; have hna : Hid (xs.length + 1 < 1099511627776) := hid (by omega); clear r10 q10) | (refine step_appPv rfl und_put (.tmp 62) (.tmp 72) rfl (B := w.heap.size + 1) (v := .slice A2 xs.length c2) (zs := xs) (ys := [(x - 1, z)]) (m := 1) rfl rfl hDa.out.op ?_ hza hna.out ?_; (first | exact RdP.of_cs (Cs.new w10 _ _) | exact RdP.of_cs (Cs.new' _ _ _ (by simp))); intro vb wb hob hgb hvb; obtain ⟨Y2, hY2⟩ : ∃ Y, xs ++ [(x - 1, z)] = Y := ⟨_, rfl⟩; rw [hY2] at hob; have hYl2 : Hid (Y2.length = xs.length + 1) := hid (by simp [← hY2]); clear hY2; obtain ⟨A, c, rfl, -⟩ := hob.form; have hkb := hid (hDa.out.keepP hgl hgb); have hDb := hid (hDa.out.appP hgl hgb hob); obtain ⟨e0, e1, e2⟩ := hkb.out.1.tri; obtain ⟨f0, f1, f2⟩ := hkb.out.1.triF; clear hob hgb hvb))
         all_goals
           try clear e0; try clear e1; try clear e2; try clear f0; try clear f1; try clear f2; try clear m0; try clear m1; try clear m2; try clear n0; try clear n1'; try clear n2'; try clear k0; try clear k1; try clear k2; try clear l0; try clear l1; try clear l2; try clear s0; try clear s1; try clear s2; try clear d0; try clear d1; try clear d2; try clear b0; try clear b1; try clear b2; try clear o0; try clear o1; try clear o2; try clear hz; try clear hkb; try clear hDa; try clear hDn; try clear hCn; try clear hDm; try clear hCl; try clear hDl; try clear hC9; try clear hD9; try clear hDe; try clear hCe; try clear hDd; try clear hD5
           go_wp2
           go_meet
           exact ⟨_, _, _, _, _, by omega, by rw [hYl2.out]; omega, hid (hDb.out.le (show _ ≤ P + 52 by omega))⟩
       · have hy4 : (y == 0) = false := by simp; omega
         have hy5 : (y == 1) = false := by simp; omega
         have hy6 : (y == 2) = false := by simp; omega
         go_wp2
         go_meet
         exact ⟨_, _, _, _, _, by omega, by omega, hid (hD5.out.le (show _ ≤ P + 52 by omega))⟩
      case rest =>
        clear hD5 hgw5
        obtain ⟨R9, P9, m9, gs9, xs9, hl1, hl2, hD9⟩ := hcut
        obtain ⟨A3, c3, A4, c4, e3, e4⟩ := hD9.out.form
        subst e3; subst e4
        obtain ⟨x0, x1, x2⟩ := hD9.out.cs.tri
        obtain ⟨z0, z1, z2⟩ := hD9.out.rs.triF
        obtain ⟨q0, q1, q2⟩ := hD9.out.rs.tri
        obtain ⟨f1, f2, f3, f4⟩ := hD9.out.ret hgl rfl
        replace f2 := hid f2
        replace f3 := hid f3
        replace f4 := hid f4
        obtain ⟨y0, y1, y2⟩ := f1.tri
        clear f1 hD9
        go_wp2
        refine bodyPost_ret (v := txV (.slice A3 gs9.length c3) m9 (.slice A4 xs9.length c4)) (by simp [results, Try.results43, go_sem, y0, y1, y2]) rfl ?_
        exact ⟨_, _, _, _, _, _, _, rfl, f2.out, f3.out, hl1, hl2, f4.out⟩
end Go.Proofs.Yteagmkhpfmiaiaa
