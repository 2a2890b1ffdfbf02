/-
  The contracts of the model's functions of rounds: l12Copy, RoundNew, l12Final, RoundFinal, RoundMissing. No condition but lengths below 2^40.
-/
import Derived.Test.YtccggcdjajehnaaRmG
import Derived.Test.YtccggcdjajehnaaRmH
namespace Go.Proofs.Ytccggcdjajehnaa
open Go.RowKit
set_option linter.unusedVariables false
set_option linter.unusedSimpArgs false

set_option maxHeartbeats 8000000 in
theorem l12Copy_any {n1 c1 n2 c2 : Nat} {A1 A2 : Option Addr} {gs : List Int} {xs : List St} (m : Int) (w : World) (hr : RdR w A1 n1 A2 n2 c2 gs xs) :
    Calls Try.prog 62 #[rnV m (.slice A1 n1 c1) (.slice A2 n2 c2)] w (RnPost m gs xs w) := by
  obtain ⟨W0, hW0⟩ : ∃ W0, ((w.alloc (.cells #[.int .i64 m, .slice A1 n1 c1, .slice A2 n2 c2] 28)).alloc (.cells #[.int .i64 0, .slice none 0 0, .slice none 0 0] 28)) = W0 := ⟨_, rfl⟩
  have hB0 := hid (show Below w.heap.size w W0 by rw [← hW0]; exact below2 w _ _)
  have kR0 := hid (show Cs W0 (w.heap.size) 28 #[.int .i64 m, .slice A1 n1 c1, .slice A2 n2 c2] by rw [← hW0]; exact (Cs.new w _ _).alloc _)
  have kZ0 := hid (show Cs W0 (w.heap.size + 1) 28 #[.int .i64 0, .slice none 0 0, .slice none 0 0] by rw [← hW0]; exact Cs.new' _ _ _ (by simp))
  have hz0 : w.heap.size + 2 = W0.heap.size := by rw [← hW0]; simp
  have hlt0 : w.heap.size < W0.heap.size := by omega
  have hlt1 : w.heap.size + 1 < W0.heap.size := by omega
  replace hz0 := hid hz0
  replace hW0 := hid hW0
  have hr0 := hid (hr.below hB0.out)
  have hrw := hid hr
  have hh1 := hr.h1
  have hh2 := hr.h2
  have hgl := hid hr.g.len
  have hxl := hid hr.s.len
  clear hr
  obtain ⟨u1, hu1⟩ : ∃ u1, W0.alloc (.cells #[] 3) = u1 := ⟨_, rfl⟩
  have hb1 : Below W0.heap.size W0 u1 := by rw [← hu1]; exact below1 _ _
  have hE1 := hid (show OwI u1 W0.heap.size (.slice (some ⟨W0.heap.size, 0, none⟩) 0 0) [] by rw [← hu1]; exact OwI.lit0 W0 rfl)
  have hr1 := hid (hr0.out.below hb1)
  have kR1 := hid (kR0.out.step hb1)
  have kZ1 := hid (kZ0.out.step hb1)
  have hB1 := hid (hB0.out.trans (hb1.mono (by omega)))
  have hz1 : W0.heap.size ≤ u1.heap.size := hb1.size
  have hzk1 := kZ1.out.lt
  replace hu1 := hid hu1
  clear hb1 hr0 hB0
  obtain ⟨r0, r1, r2⟩ := kR0.out.three
  have hn9 : ([] : List Int).length + n1 < 1099511627776 := by simp; omega
  go_enter Try.func62, Try.ntmps62
  go_upto_region 1 with (fail)
  rw [hW0.out]
  obtain ⟨p0, p1, p2⟩ := kR1.out.three
  go_upto_region 2 with (at_builtin; rw [hu1.out]; (refine wpList_appI2 rfl (.tmp 3) (.tmp 5) rfl (B := W0.heap.size) (Br := u1.heap.size) (v := .slice (some ⟨W0.heap.size, 0, none⟩) 0 0) (zs := []) (ys := gs) rfl rfl hE1.out hr1.out.g hz1 hn9 ?_); intro v2 u2 ho2 hg2 hv2; rw [List.nil_append] at ho2; have hk2 := hid ((Kp.refl (fun b => b = W0.heap.size) u1).grown hg2 (fun b hb => .inr (by injection hb with hb; exact hb.symm))); have kR2 := hid (kR1.out.kp hk2.out (by omega)); have kZ2 := hid (kZ1.out.kp hk2.out (by omega)); have hB2 := hid (hB1.out.trans (hk2.out.base (by omega) (fun b hb => by omega))); have hz2 : W0.heap.size ≤ u2.heap.size := Nat.le_trans hz1 hk2.out.size; obtain ⟨Ga, gc, rfl, -⟩ := ho2.form; have ho2 := hid ho2; obtain ⟨f0, f1, f2⟩ := kR2.out.free3; obtain ⟨y0, y1, y2⟩ := kR2.out.three; clear hg2 hv2 hk2)
  obtain ⟨u3, hu3⟩ : ∃ u3, u2.setCell ⟨w.heap.size, 1, none⟩ (.slice Ga gs.length gc) = u3 := ⟨_, rfl⟩
  rw [hu3]
  have kR3 := hid (show Cs u3 w.heap.size 28 #[.int .i64 m, .slice Ga gs.length gc, .slice A2 n2 c2] by rw [← hu3]; exact kR2.out.set 1 _)
  have kZ3 := hid (show Cs u3 (w.heap.size + 1) 28 #[.int .i64 0, .slice none 0 0, .slice none 0 0] by rw [← hu3]; exact kZ2.out.far (by simp) _)
  have hB3 := hid (show Below w.heap.size w u3 by rw [← hu3]; exact hB2.out.setCell (Nat.le_refl _) _)
  have ho3 := hid (show OwI u3 W0.heap.size (.slice Ga gs.length gc) gs by rw [← hu3]; exact ho2.out.setLow hlt0 _)
  have hz3 : u2.heap.size ≤ u3.heap.size := by rw [← hu3]; simp [World.setCell]
  clear hu3 kR2 kZ2 hB2 ho2 f0 f1 f2 y0 y1 y2 p0 p1 p2 r0 r1 r2
  obtain ⟨r0, r1, r2⟩ := kR3.out.three
  have hlr3 := kR3.out.lt
  obtain ⟨u4, hu4⟩ : ∃ u4, u3.alloc (.cells #[] 33) = u4 := ⟨_, rfl⟩
  have hb4 : Below u3.heap.size u3 u4 := by rw [← hu4]; exact below1 _ _
  have hE4 := hid (show OwS u4 u3.heap.size (.slice (some ⟨u3.heap.size, 0, none⟩) 0 0) [] by rw [← hu4]; exact OwS.lit0 u3 rfl)
  have hr4 := hid ((hrw.out.below (hB3.out.trans (hb4.mono hB3.out.size))).s)
  have kR4 := hid (kR3.out.step hb4)
  have kZ4 := hid (kZ3.out.step hb4)
  have hB4 := hid (hB3.out.trans (hb4.mono hB3.out.size))
  have ho4 := hid (ho3.out.stp hb4)
  have ho3l := hid (fun b hb => (ho3.out.lt b hb).2)
  have hz4 : u3.heap.size ≤ u4.heap.size := hb4.size
  have hm9 : ([] : List St).length + n2 < 1099511627776 := by simp; omega
  replace hu4 := hid hu4
  clear hb4
  go_upto_region 3 with (at_builtin; rw [hu4.out]; (refine wpList_appS2 rfl und_st (.tmp 8) (.tmp 10) rfl (B := u3.heap.size) (v := .slice (some ⟨u3.heap.size, 0, none⟩) 0 0) (zs := []) (ys := xs) rfl rfl hE4.out hr4.out hz4 hm9 ?_); intro v5 u5 ho5 hg5 hv5; rw [List.nil_append] at ho5; have hk5 := hid ((Kp.refl (fun b => b = u3.heap.size) u4).grown hg5 (fun b hb => .inr (by injection hb with hb; exact hb.symm))); have kR5 := hid (kR4.out.kp hk5.out (by omega)); have kZ5 := hid (kZ4.out.kp hk5.out (by have := kZ3.out.lt; omega)); have hB5 := hid (hB4.out.trans (hk5.out.base (by omega) (fun b hb => by omega))); have oI5 := hid (ho4.out.kp hk5.out (fun b hb h => by have := ho3l.out b hb; omega)); obtain ⟨Sa, sc, rfl, -⟩ := ho5.form; have ho5 := hid ho5; obtain ⟨f0, f1, f2⟩ := kR5.out.free3; obtain ⟨y0, y1, y2⟩ := kR5.out.three; clear hg5 hv5 hk5)
  obtain ⟨u6, hu6⟩ : ∃ u6, u5.setCell ⟨w.heap.size, 2, none⟩ (.slice Sa xs.length sc) = u6 := ⟨_, rfl⟩
  rw [hu6]
  have kR6 := hid (show Cs u6 w.heap.size 28 #[.int .i64 m, .slice Ga gs.length gc, .slice Sa xs.length sc] by rw [← hu6]; exact kR5.out.set 2 _)
  have kZ6 := hid (show Cs u6 (w.heap.size + 1) 28 #[.int .i64 0, .slice none 0 0, .slice none 0 0] by rw [← hu6]; exact kZ5.out.far (by simp) _)
  have hB6 := hid (show Below w.heap.size w u6 by rw [← hu6]; exact hB5.out.setCell (Nat.le_refl _) _)
  have oR6 := hid (show OwR u6 W0.heap.size Ga gs.length gc Sa xs.length sc gs xs by rw [← hu6]; exact (OwR.mk oI5.out (ho5.out.more (by omega)) rfl rfl).setLow hlt0 _)
  clear hu6 kR5 kZ5 hB5 ho5 oI5 f0 f1 f2 y0 y1 y2 r0 r1 r2
  obtain ⟨r0, r1, r2⟩ := kR6.out.three
  obtain ⟨y0, y1, y2⟩ := kZ6.out.three
  obtain ⟨f0, f1, f2⟩ := kZ6.out.free3
  have hY := hid (kZ6.out.set3 (.int .i64 m) (.slice Ga gs.length gc) (.slice Sa xs.length sc)).three
  have hO := hid (((oR6.out.setLow (p := ⟨w.heap.size + 1, 0, none⟩) hlt1 (.int .i64 m)).setLow (p := ⟨w.heap.size + 1, 1, none⟩) hlt1 (.slice Ga gs.length gc)).setLow (p := ⟨w.heap.size + 1, 2, none⟩) hlt1 (.slice Sa xs.length sc))
  go_wp2
  obtain ⟨x0, x1, x2⟩ := hY.out
  refine bodyPost_ret (v := rnV m (.slice Ga gs.length gc) (.slice Sa xs.length sc)) (by simp [results, Try.results62, go_sem, x0, x1, x2]) rfl ?_
  exact ⟨Ga, gc, Sa, sc, rfl, hO.out.more (lo' := w.heap.size) (by omega), ((hB6.out.setCell (by simp <;> omega) _).setCell (by simp <;> omega) _).setCell (by simp <;> omega) _⟩

set_option maxHeartbeats 8000000 in
theorem RoundNew_spec {n1 c1 : Nat} {A1 : Option Addr} {gs : List Int} {m : Int} {o : Ro} (hO : nwRo m gs = o) (w : World) (hr : RdI w w.heap.size A1 n1 gs) (hn : n1 < 1099511627776) :
    Calls Try.prog 13 #[.int .i64 m, .slice A1 n1 c1] w (RnPost2 o w) := by
  obtain ⟨W0, hW0⟩ : ∃ W0, (w.alloc (.cells #[.int .i64 0, .slice none 0 0, .slice none 0 0] 28)) = W0 := ⟨_, rfl⟩
  have hB0 := hid (show Below w.heap.size w W0 by rw [← hW0]; exact below1 w _)
  have kZ0 := hid (show Cs W0 (w.heap.size) 28 #[.int .i64 0, .slice none 0 0, .slice none 0 0] by rw [← hW0]; exact Cs.new w _ _)
  have hz0 : w.heap.size + 1 = W0.heap.size := by rw [← hW0]; simp
  have hlt0 : w.heap.size < W0.heap.size := by omega
  replace hz0 := hid hz0
  replace hW0 := hid hW0
  have hrw := hid hr
  have hr0 := hid ((Reads.below hr hB0.out).more hB0.out.size)
  have hgl := hid hr.len
  clear hr
  cases hM : msB m with
  | false =>
    have hO' : o = ro0 := by rw [← hO, nwRo, hM]; rfl
    subst hO'
    have hM := hid hM
    clear hO
    go_enter Try.func13, Try.ntmps13
    go_upto_region 1 with (fail)
    rw [hW0.out]
    go_wp2_with fail
    refine (l11Message_ar hM.out _).mono ?_
    rintro e w1 ⟨rfl, rfl⟩
    obtain ⟨q0, q1, q2⟩ := kZ0.out.three
    obtain ⟨g0, g1, g2⟩ := kZ0.out.free3
    have hY := hid (kZ0.out.set3 (.int .i64 0) (.slice none 0 0) (.slice none 0 0)).three
    go_wp2
    obtain ⟨y0, y1, y2⟩ := hY.out
    refine bodyPost_ret (v := .tuple #[rnV 0 (.slice none 0 0) (.slice none 0 0), .bool false]) (by simp [results, Try.results13, go_sem, y0, y1, y2]) rfl ?_
    exact ⟨none, 0, none, 0, rfl, OwR.nil_ _ _, ((hB0.out.setCell (by simp <;> omega) _).setCell (by simp <;> omega) _).setCell (by simp <;> omega) _⟩
  | true =>
    cases hG : gvalid gs with
    | false =>
      have hO' : o = ro0 := by rw [← hO, nwRo, hG, Bool.and_false]; rfl
      subst hO'
      have hM := hid hM
      have hG := hid hG
      clear hO
      go_enter Try.func13, Try.ntmps13
      go_upto_region 1 with (fail)
      rw [hW0.out]
      go_wp2_with fail
      refine (l11Message_ar hM.out _).mono ?_
      rintro e w1 ⟨rfl, rfl⟩
      go_wp2_with fail
      refine (GroupsValid_spec _ hr0.out hn).mono ?_
      rw [hG.out]
      rintro e w2 ⟨rfl, hq⟩
      have hb2 := hq.below W0.heap.size
      have kZ2 := hid (kZ0.out.step hb2)
      have hB2 := hid (hB0.out.trans (hb2.mono (by omega)))
      clear hq hb2
      obtain ⟨q0, q1, q2⟩ := kZ2.out.three
      obtain ⟨g0, g1, g2⟩ := kZ2.out.free3
      have hY := hid (kZ2.out.set3 (.int .i64 0) (.slice none 0 0) (.slice none 0 0)).three
      go_wp2
      obtain ⟨y0, y1, y2⟩ := hY.out
      refine bodyPost_ret (v := .tuple #[rnV 0 (.slice none 0 0) (.slice none 0 0), .bool false]) (by simp [results, Try.results13, go_sem, y0, y1, y2]) rfl ?_
      exact ⟨none, 0, none, 0, rfl, OwR.nil_ _ _, ((hB2.out.setCell (by simp <;> omega) _).setCell (by simp <;> omega) _).setCell (by simp <;> omega) _⟩
    | true =>
      have hO' : o = ⟨m, gs, [], true⟩ := by rw [← hO, nwRo, hM, hG]; rfl
      subst hO'
      have hM := hid hM
      have hG := hid hG
      clear hO
      go_enter Try.func13, Try.ntmps13
      go_upto_region 1 with (fail)
      rw [hW0.out]
      go_wp2_with fail
      refine (l11Message_ar hM.out _).mono ?_
      rintro e w1 ⟨rfl, rfl⟩
      go_wp2_with fail
      refine (GroupsValid_spec _ hr0.out hn).mono ?_
      rw [hG.out]
      rintro e w2 ⟨rfl, hq⟩
      have hb2 := hq.below W0.heap.size
      have kZ2 := hid (kZ0.out.step hb2)
      have hB2 := hid (hB0.out.trans (hb2.mono (by omega)))
      have hz2 : W0.heap.size ≤ w2.heap.size := hb2.size
      clear hq hb2
      obtain ⟨u3, hu3⟩ : ∃ u3, w2.alloc (.cells #[] 3) = u3 := ⟨_, rfl⟩
      have hb3 : Below w2.heap.size w2 u3 := by rw [← hu3]; exact below1 _ _
      have hE3 := hid (show OwI u3 w2.heap.size (.slice (some ⟨w2.heap.size, 0, none⟩) 0 0) [] by rw [← hu3]; exact OwI.lit0 w2 rfl)
      have hB3 := hid (hB2.out.trans (hb3.mono (by omega)))
      have hr3 := hid ((Reads.below hrw.out hB3.out).more hB3.out.size)
      have kZ3 := hid (kZ2.out.step hb3)
      have hz3 : w2.heap.size ≤ u3.heap.size := hb3.size
      have hn9 : ([] : List Int).length + n1 < 1099511627776 := by simp; omega
      replace hu3 := hid hu3
      clear hb3
      go_wp2_with (at_builtin; rw [hu3.out]; (refine wpList_appI2 rfl (.tmp 16) (.tmp 17) rfl (B := w2.heap.size) (Br := u3.heap.size) (v := .slice (some ⟨w2.heap.size, 0, none⟩) 0 0) (zs := []) (ys := gs) rfl rfl hE3.out hr3.out hz3 hn9 ?_); intro v4 u4 ho4 hg4 hv4; rw [List.nil_append] at ho4; have hk4 := hid ((Kp.refl (fun b => b = w2.heap.size) u3).grown hg4 (fun b hb => .inr (by injection hb with hb; exact hb.symm))); have kZ4 := hid (kZ3.out.kp hk4.out (by omega)); have hB4 := hid (hB3.out.trans (hk4.out.base (by omega) (fun b hb => by omega))); have hz4 : u3.heap.size ≤ u4.heap.size := hk4.out.size; obtain ⟨Ga, gc, rfl, -⟩ := ho4.form; have ho4 := hid ho4; have hb5 := below1 u4 (.cells #[] 33); have hE5 := hid (OwS.lit0 u4 rfl); have kZ5 := hid (kZ4.out.step hb5); have ho5 := hid (ho4.out.stp hb5); have hB5 := hid (hB4.out.trans (hb5.mono (by omega))); obtain ⟨q0, q1, q2⟩ := kZ5.out.three; obtain ⟨g0, g1, g2⟩ := kZ5.out.free3; have hY := hid (kZ5.out.set3 (.int .i64 m) (.slice Ga gs.length gc) (.slice (some ⟨u4.heap.size, 0, none⟩) 0 0)).three; have oR := hid (OwR.mk ho5.out (hE5.out.more (B' := w2.heap.size) (by omega)) rfl rfl); have hO := hid (((oR.out.setLow (p := ⟨w.heap.size, 0, none⟩) (by simp; omega) (.int .i64 m)).setLow (p := ⟨w.heap.size, 1, none⟩) (by simp; omega) (.slice Ga gs.length gc)).setLow (p := ⟨w.heap.size, 2, none⟩) (by simp; omega) (.slice (some ⟨u4.heap.size, 0, none⟩) 0 0)); clear hg4 hv4 hk4 hb5)
      obtain ⟨x0, x1, x2⟩ := hY.out
      refine bodyPost_ret (v := .tuple #[rnV m (.slice Ga gs.length gc) (.slice (some ⟨u4.heap.size, 0, none⟩) 0 0), .bool true]) (by simp [results, Try.results13, go_sem, x0, x1, x2]) rfl ?_
      exact ⟨Ga, gc, some ⟨u4.heap.size, 0, none⟩, 0, rfl, hO.out.more (lo' := w.heap.size) (by omega), ((hB5.out.setCell (by simp) _).setCell (by simp) _).setCell (by simp) _⟩

set_option maxHeartbeats 8000000 in
theorem l12Final_any {n1 c1 n2 c2 : Nat} {A1 A2 : Option Addr} {gs : List Int} {xs : List St} {m t g : Int} {ok : Bool} (hv : rvB m gs xs = true) (hF : fnR m gs xs = (t, g)) (hO : fnB m gs xs = ok) (w : World) (hr : RdR w A1 n1 A2 n2 c2 gs xs) :
    Calls Try.prog 51 #[rnV m (.slice A1 n1 c1) (.slice A2 n2 c2)] w fun e w' => e = .returned (.tuple #[two t g, .bool ok]) ∧ Below w.heap.size w w' := by
  obtain ⟨W0, hW0⟩ : ∃ W0, ((w.alloc (.cells #[.int .i64 m, .slice A1 n1 c1, .slice A2 n2 c2] 28)).alloc (.cells #[.int .i64 0, .int .i64 0] 33)) = W0 := ⟨_, rfl⟩
  have hB0 := hid (show Below w.heap.size w W0 by rw [← hW0]; exact below2 w _ _)
  have kR0 := hid (show Cs W0 (w.heap.size) 28 #[.int .i64 m, .slice A1 n1 c1, .slice A2 n2 c2] by rw [← hW0]; exact (Cs.new w _ _).alloc _)
  have kS0 := hid (show Cs W0 (w.heap.size + 1) 33 #[.int .i64 0, .int .i64 0] by rw [← hW0]; exact Cs.new' _ _ _ (by simp))
  have hz0 : w.heap.size + 2 = W0.heap.size := by rw [← hW0]; simp
  have hlt0 : w.heap.size < W0.heap.size := by omega
  have hlt1 : w.heap.size + 1 < W0.heap.size := by omega
  replace hz0 := hid hz0
  replace hW0 := hid hW0
  have hr0 := hid (hr.below hB0.out)
  have hh1 := hr.h1
  have hh2 := hr.h2
  have hgl := hr.g.len
  have hxl := hr.s.len
  obtain ⟨hv1, hv2, hv3⟩ := rvB_true.1 hv
  have hml := misL_len hv3 hv1
  have hg1 := (gs_len hv3).1
  obtain ⟨r0, r1, r2⟩ := kR0.out.three
  by_cases hl : n2 < n1
  · have hfb : fnB m gs xs = false := by rw [fnB, hv, Bool.true_and, decide_eq_false_iff_not]; omega
    have hR : Hid (Ending.returned (.tuple #[two 0 0, .bool false]) = .returned (.tuple #[two t g, .bool ok])) := hid (by
      rw [fnR, hfb] at hF
      rw [hfb] at hO
      injection hF with e1 e2
      rw [← hO, ← e1, ← e2])
    clear hF hO hr hfb hml hgl hxl hv1 hv2 hv3 hv
    go_enter Try.func51, Try.ntmps51
    go_upto_region 1 with (fail)
    rw [hW0.out]
    obtain ⟨s0, s1, s2, s3⟩ := kS0.out.two
    have hY := hid ((((kS0.out.set 0 (.int .i64 0)).set 1 (.int .i64 0)) : Cs _ _ _ #[.int .i64 0, .int .i64 0]).two)
    go_wp2
    obtain ⟨y0, y1, -, -⟩ := hY.out
    refine bodyPost_ret (v := .tuple #[two 0 0, .bool false]) (by simp [results, Try.results51, go_sem, y0, y1]) rfl ⟨hR.out, (hB0.out.setCell (by simp) _).setCell (by simp) _⟩
  · have hfb : fnB m gs xs = true := by rw [fnB, hv, Bool.true_and, decide_eq_true_eq]; omega
    have hmx := fn_max hfb
    have hfr : Hid (mxL (xs.headD (0, 0)) xs.tail = (t, g)) := hid (by rw [← maxR_yes hmx, ← hF, fnR, if_pos hfb])
    have hok : ok = true := by rw [← hO]; exact hfb
    subst hok
    have hn1 : 1 ≤ n2 := by omega
    clear hF hO hr hfb hml hgl hxl hv1 hv2 hv3 hv hmx
    go_enter Try.func51, Try.ntmps51
    go_upto_region 1 with (fail)
    rw [hW0.out]
    go_wp2_with fail
    refine (l2Max_any _ hr0.out.s hh2 hn1).mono ?_
    rw [hfr.out]
    rintro e u1 ⟨rfl, hb1⟩
    have kS1 := hid (kS0.out.step hb1)
    have hB1 := hid (hB0.out.trans (hb1.mono (by omega)))
    clear hb1
    obtain ⟨s0, s1, s2, s3⟩ := kS1.out.two
    have hY := hid ((((kS1.out.set 0 (.int .i64 t)).set 1 (.int .i64 g)) : Cs _ _ _ #[.int .i64 t, .int .i64 g]).two)
    go_wp2
    obtain ⟨y0, y1, -, -⟩ := hY.out
    refine bodyPost_ret (v := .tuple #[two t g, .bool true]) (by simp [results, Try.results51, go_sem, y0, y1]) rfl ⟨rfl, (hB1.out.setCell (by simp) _).setCell (by simp) _⟩

set_option maxHeartbeats 8000000 in
theorem RoundFinal_spec {n1 c1 n2 c2 : Nat} {A1 A2 : Option Addr} {gs : List Int} {xs : List St} {m t g : Int} {ok : Bool} (hF : fnR m gs xs = (t, g)) (hO : fnB m gs xs = ok) (w : World) (hr : RdR w A1 n1 A2 n2 c2 gs xs) :
    Calls Try.prog 28 #[rnV m (.slice A1 n1 c1) (.slice A2 n2 c2)] w fun e w' => e = .returned (.tuple #[two t g, .bool ok]) ∧ Below w.heap.size w w' := by
  obtain ⟨W0, hW0⟩ : ∃ W0, ((w.alloc (.cells #[.int .i64 m, .slice A1 n1 c1, .slice A2 n2 c2] 28)).alloc (.cells #[.int .i64 0, .int .i64 0] 33)) = W0 := ⟨_, rfl⟩
  have hB0 := hid (show Below w.heap.size w W0 by rw [← hW0]; exact below2 w _ _)
  have kR0 := hid (show Cs W0 (w.heap.size) 28 #[.int .i64 m, .slice A1 n1 c1, .slice A2 n2 c2] by rw [← hW0]; exact (Cs.new w _ _).alloc _)
  have kS0 := hid (show Cs W0 (w.heap.size + 1) 33 #[.int .i64 0, .int .i64 0] by rw [← hW0]; exact Cs.new' _ _ _ (by simp))
  have hz0 : w.heap.size + 2 = W0.heap.size := by rw [← hW0]; simp
  have hlt0 : w.heap.size < W0.heap.size := by omega
  have hlt1 : w.heap.size + 1 < W0.heap.size := by omega
  replace hz0 := hid hz0
  replace hW0 := hid hW0
  have hr0 := hid (hr.below hB0.out)
  obtain ⟨r0, r1, r2⟩ := kR0.out.three
  cases hb : rvB m gs xs with
  | false =>
    have hR : Hid (Ending.returned (.tuple #[two 0 0, .bool false]) = .returned (.tuple #[two t g, .bool ok])) := hid (by
      have h1 := fnB_no hb
      rw [fnR, h1] at hF
      rw [h1] at hO
      injection hF with e1 e2
      rw [← hO, ← e1, ← e2])
    have hb := hid hb
    clear hF hO hr
    go_enter Try.func28, Try.ntmps28
    go_upto_region 1 with (fail)
    rw [hW0.out]
    go_wp2_with fail
    refine (RoundValid_spec hb.out _ hr0.out).mono ?_
    rintro e u1 ⟨rfl, hb1⟩
    have kS1 := hid (kS0.out.step hb1)
    have hB1 := hid (hB0.out.trans (hb1.mono (by omega)))
    clear hb1
    obtain ⟨s0, s1, s2, s3⟩ := kS1.out.two
    have hY := hid ((((kS1.out.set 0 (.int .i64 0)).set 1 (.int .i64 0)) : Cs _ _ _ #[.int .i64 0, .int .i64 0]).two)
    go_wp2
    obtain ⟨y0, y1, -, -⟩ := hY.out
    refine bodyPost_ret (v := .tuple #[two 0 0, .bool false]) (by simp [results, Try.results28, go_sem, y0, y1]) rfl ⟨hR.out, (hB1.out.setCell (by simp) _).setCell (by simp) _⟩
  | true =>
    have hF := hid hF
    have hO := hid hO
    have hb := hid hb
    clear hr
    go_enter Try.func28, Try.ntmps28
    go_upto_region 1 with (fail)
    rw [hW0.out]
    go_wp2_with fail
    refine (RoundValid_spec hb.out _ hr0.out).mono ?_
    rintro e u1 ⟨rfl, hb1⟩
    have kR1 := hid (kR0.out.step hb1)
    have kS1 := hid (kS0.out.step hb1)
    have hB1 := hid (hB0.out.trans (hb1.mono (by omega)))
    have hr1 := hid (hr0.out.below hb1)
    have hz1 : W0.heap.size ≤ u1.heap.size := hb1.size
    clear hb1 r0 r1 r2
    obtain ⟨r0, r1, r2⟩ := kR1.out.three
    go_wp2_with fail
    refine (l12Final_any hb.out hF.out hO.out _ hr1.out).mono ?_
    rintro e u2 ⟨rfl, hb2⟩
    have kS2 := hid (kS1.out.step hb2)
    have hB2 := hid (hB1.out.trans (hb2.mono (by omega)))
    clear hb2
    obtain ⟨s0, s1, s2, s3⟩ := kS2.out.two
    have hY := hid ((((kS2.out.set 0 (.int .i64 t)).set 1 (.int .i64 g)) : Cs _ _ _ #[.int .i64 t, .int .i64 g]).two)
    go_wp2
    obtain ⟨y0, y1, -, -⟩ := hY.out
    refine bodyPost_ret (v := .tuple #[two t g, .bool ok]) (by simp [results, Try.results28, go_sem, y0, y1]) rfl ⟨rfl, (hB2.out.setCell (by simp) _).setCell (by simp) _⟩

end Go.Proofs.Ytccggcdjajehnaa
