/-
  Contract of the program's BatchOf. No condition but lengths below 2^40.
-/
import Derived.Test.YtikjcpbhleejnaaBtH
import Derived.Test.YtikjcpbhleejnaaBtC
namespace Go.Proofs.Ytikjcpbhleejnaa
open Go.RowKit Go.Shelf
attribute [local go_sem] Oper.semAt_some

theorem KeepsFrom.of_below {B : Nat} {W W' : World} (h : Below W.heap.size W W') : KeepsFrom B W W' := ⟨h.size, fun k _ _ hk _ => (h.block k (Array.getElem?_eq_some_iff.1 hk).1).trans hk⟩

theorem AtB.kept {W W' : World} {row : Option Nat} {b : Nat} {x y : Int} (h : AtB W b x y) (hg : W.grownBy W' row) (hrow : ∀ r, row = some r → ∃ o : Obj, W.heap[r]? = some o ∧ o.isCells = false) : AtB W' b x y :=
  (hg.block b h.lt (fun e => by
    obtain ⟨o, ho, hc⟩ := hrow b e.symm
    rw [show W.heap[b]? = _ from h] at ho; cases ho; cases hc)).trans h

theorem ownFrom_size {β : Type} (B n : Nat) : OwnFrom B (fun (_ : β) W => n ≤ W.heap.size) := fun _ _ _ _ hs hg _ => Nat.le_trans hs hg.size

theorem Boxed.below {W W' : World} {B b : Nat} {t : TypeId} {v : Value} (h : Boxed W b t v) (hb : Below B W W') (hB : b < B) : Boxed W' b t v := (hb.block b hB).trans h

/-- what is known of BatchOf when k batches have been passed -/
def OfAt (cut : List Int) (x : Int) (k : Nat) : Prop := 0 ≤ firstW cut k ∧ firstW cut k ≤ 20 * k ∧ (x < 0 ∨ firstW cut k ≤ x) ∧ ofL x (cut.drop k) k (firstW cut k) = ofR cut x

theorem OfAt.next {cut : List Int} {x z : Int} {k : Nat} (h : OfAt cut x k) (hk : k < cut.length) (h20 : k ≤ 20) (hz : cut.getD k 0 = z) (hin : inB z 1 20 = true) (hx : ¬ (firstW cut k ≤ x ∧ x < firstW cut k + z)) : OfAt cut x (k + 1) := by
  obtain ⟨h1, h2, h3, h4⟩ := h
  obtain ⟨z1, z2⟩ := inB_true.1 hin
  have e : firstW cut (k + 1) = firstW cut k + z := by
    rw [firstW, hz]; unfold wrap64; omega
  refine ⟨by omega, by omega, by omega, ?_⟩
  rw [drop_cons hk hz, ofL_on hin (by omega)] at h4
  rw [e]; exact h4

theorem OfAt.bad {cut : List Int} {x z : Int} {k : Nat} (h : OfAt cut x k) (hk : k < cut.length) (hz : cut.getD k 0 = z) (hin : inB z 1 20 = false) : ofR cut x = -1 := by
  rw [← h.2.2.2, drop_cons hk hz, ofL_bad hin]

theorem OfAt.hit {cut : List Int} {x z : Int} {k : Nat} (h : OfAt cut x k) (hk : k < cut.length) (hz : cut.getD k 0 = z) (hin : inB z 1 20 = true) (h1 : firstW cut k ≤ x) (h2 : x < firstW cut k + z) : ofR cut x = k := by
  have h0 := h.1
  rw [← h.2.2.2, drop_cons hk hz, ofL_hit hin (by omega) h2]

set_option maxRecDepth 100000 in
set_option maxHeartbeats 4000000 in
theorem BatchOf_impl {P m c : Nat} {A : Option Addr} {cut : List Int} (x : Int) (w : World) (hr : RdI w P A m cut) (hP : P ≤ w.heap.size) (hm : m < 1099511627776) :
    Calls Try.prog 19 #[.slice A m c, .int .i64 x] w fun e w' => e = .returned (.int .i64 (ofR cut x)) ∧ Below w.heap.size w w' := by
  have hly := hid hr.len
  have hr' := hid hr
  clear hr
  by_cases h20 : m ≤ 20
  · have h20' : ¬ 20 < m := by omega
    have b0 := hid (Boxed.new w 3 (.int .i64 x))
    have b1 := hid (Boxed.new (w.alloc (.cells #[.int .i64 x] 3)) 3 (.int .i64 0))
    have b2 := hid (Boxed.new ((w.alloc (.cells #[.int .i64 x] 3)).alloc (.cells #[.int .i64 0] 3)) 23 (.slice A m c))
    have hB := hid ((((Below.refl w.heap.size w).alloc (Nat.le_refl _) (.cells #[.int .i64 x] 3)).alloc (by simp) (.cells #[.int .i64 0] 3)).alloc (by simp; omega) (.cells #[.slice A m c] 23))
    refine (callsIn_wide (n := 5)).1 ?_
    refine callsIn_of_wp_marks Try.func19 rfl trivial ?_ rfl
    simp only [Try.ntmps19, List.size_toArray, List.length_cons, List.length_nil, Nat.reduceAdd, Nat.reduceSub, Array.replicate_succ, Array.replicate_zero, List.push_toArray, List.append_toArray, List.nil_append, List.cons_append]
    gi_wp2_with (refine ⟨trivial, ?_⟩; gi_at_call 26; refine (callsIn_wide.2 (batchesOf_any _ _ _ _)).mono ?_; rintro e w1 ⟨rfl, rfl⟩)
    obtain ⟨ws, hws⟩ : ∃ ws, ((w.alloc (.cells #[.int .i64 x] 3)).alloc (.cells #[.int .i64 0] 3)).alloc (.cells #[.slice A m c] 23) = ws := ⟨_, rfl⟩
    have hs := hid (show ws.heap.size = w.heap.size + 3 by rw [← hws]; simp)
    have d0 := hid (show Boxed ws w.heap.size 3 (.int .i64 x) by rw [← hws]; exact (b0.out.alloc _).alloc _)
    have d1 := hid (show Boxed ws (w.heap.size + 1) 3 (.int .i64 0) by rw [← hws]; simpa using b1.out.alloc (.cells #[.slice A m c] 23))
    have d2 := hid (show Boxed ws (w.heap.size + 1 + 1) 23 (.slice A m c) by rw [← hws]; simpa using b2.out)
    have hBs := hid (show Below w.heap.size w ws by rw [← hws]; exact hB.out)
    rw [hws]
    clear b0 b1 b2 hB hws
    have hseq := batchesOf_seq (n0 := w.heap.size + 3) (e := w.heap.size + 3) (P0 := P) (p := w.heap.size + 1 + 1) (nn := 4) ws (by omega) (by rw [hs.out]; omega) (by omega) (by omega) (by omega) (by omega) d2.out.cell (hr'.out.keep fun p hp => hBs.out.cell (by omega)) hm
    refine wpIn_rangeN (gf := 34) (lb := #[.pointer (some ⟨w.heap.size + 1 + 1, 0, none⟩)]) (n0 := w.heap.size + 3) (e := w.heap.size + 3) rfl (enters_of Try.func34 (by kernel_rfl) rfl) hseq (by rw [hs.out]; omega) (fun _ => rfl)
      (fun k W => (OfAt cut x k ∧ (Boxed W w.heap.size 3 (.int .i64 x) ∧ Boxed W (w.heap.size + 1) 3 (.int .i64 0))) ∧ (Below w.heap.size w W ∧ w.heap.size + 3 ≤ W.heap.size))
      (fun _ W => Boxed W (w.heap.size + 1) 3 (.int .i64 (ofR cut x)) ∧ Below w.heap.size w W)
      (OwnFrom.and (OwnFrom.and (ownFrom_pure _ _) (OwnFrom.and (Own.from (boxed_own _ _ _) _) (Own.from (boxed_own _ _ _) _))) (OwnFrom.and (ownFrom_below (Nat.le_refl _) (by rw [hs.out]; omega)) (ownFrom_size _ _)))
      (OwnFrom.and (Own.from (boxed_own _ _ _) _) (ownFrom_below (Nat.le_refl _) (by rw [hs.out]; omega)))
      ⟨⟨⟨Int.le_refl _, Int.le_refl _, by simp [firstW]; omega, by rw [ofR_small hly.out h20]; rfl⟩, d0.out, d1.out⟩, hBs.out, by rw [hs.out]; omega⟩
      (fun k a' W => ∃ bx, AtB W bx (firstW cut k) (cut.getD k 0) ∧ a' = { tmps := #[.slice A m c, .int .i64 x, undef, .pointer (some ⟨w.heap.size, 0, none⟩), .pointer (some ⟨w.heap.size + 1, 0, none⟩), .int .i64 k, .pointer (some ⟨bx, 0, none⟩), .slice A m c, .int .i64 m, .bool (decide ((20 : Int) < (m : Int))), .slice A m c, .func (.func 34) #[] #[.pointer (some ⟨w.heap.size + 1 + 1, 0, none⟩)], .int .i64 k, btv (firstW cut k) (cut.getD k 0), undef, undef, undef, undef, undef, undef, undef], defers := [] })
      (fun k a' _ W W' row h hg hr => by
        obtain ⟨bx, h1, h2⟩ := h
        exact ⟨bx, h1.kept hg (fun r e => (hr r e).2), h2⟩) ?assign ?body ?done ?stop
    case assign =>
      intro k l W K hk hi hK
      obtain ⟨f, hf⟩ : ∃ f, firstW cut k = f := ⟨_, rfl⟩
      obtain ⟨z, hz⟩ : ∃ z, cut.getD k 0 = z := ⟨_, rfl⟩
      rw [hf, hz] at hK ⊢
      have hi' := hid hi
      clear hi hf hz hk
      gi_wp2
      obtain ⟨⟨i1, i2, i3⟩, i4, i5⟩ := hi'.out
      refine hK _ _ ((KeepsOthers.alloc _ _).from _) ((KeepX.refl _ _ _).alloc i5 _) ⟨⟨i1, i2.alloc _, i3.alloc _⟩, i4.alloc i4.size _, ?_⟩ ⟨_, AtB.new W f z, rfl⟩
      simp; omega
    case body =>
      rintro k l a' W hk ⟨⟨hof, i2, i3⟩, i4, i5⟩ ⟨bx, hbx, rfl⟩
      obtain ⟨z, hz⟩ : ∃ z, cut.getD k 0 = z := ⟨_, rfl⟩
      rw [hz] at hbx ⊢
      have hof' := hid hof
      obtain ⟨f1, f2, f3, _⟩ := hof
      have hkl : k < cut.length := by rw [hly.out]; exact hk
      have hnext := hid (fun h1 h2 => hof'.out.next (z := z) hkl (by omega) hz h1 h2)
      have hbad := hid (fun h1 => hof'.out.bad (z := z) hkl hz h1)
      have hhit := hid (fun h1 h2 h3 => hof'.out.hit (z := z) hkl hz h1 h2 h3)
      obtain ⟨f, hf⟩ : ∃ f, firstW cut k = f := ⟨_, rfl⟩
      rw [hf] at hbx f1 f2 f3 hnext hhit ⊢
      clear hf hz hof' hkl
      have hbl := hbx.lt
      have e0 := hbx.c0
      have e1 := hbx.c1
      have g0 := i2.cell
      have g1 := i3.cell
      have g2 := i3.frozen
      have hWs : w.heap.size + 1 < W.heap.size := i3.lt
      have hbx' := hid hbx
      have i2' := hid i2
      have i3' := hid i3
      have i4' := hid i4
      clear hbx i2 i3 i4
      cases hin : inB z 1 20 with
      | false =>
        have hin' := hid hin
        clear hin
        gi_wp2_with (refine ⟨trivial, ?_⟩; gi_at_call 27; refine (CallsIn.inRound l (callsIn_wide.2 (counts_any _ _ _ _))).mono ?_; rw [hin'.out]; rintro e w1 ⟨rfl, hb1⟩; have k1 := (hb1.cell (p := ⟨w.heap.size + 1, 0, none⟩) hWs).trans g1; have k2 := (hb1.frozen (p := ⟨w.heap.size + 1, 0, none⟩) hWs).trans g2)
        have hr1 := hid (hbad.out hin'.out)
        have hBx := hid ((Boxed.below i3'.out hb1 hWs).set (.int .i64 (-1)))
        exact ⟨(KeepsFrom.of_below hb1).trans ((KeepsOthers.setCell _ _ _).from _), by rw [hr1.out]; exact hBx.out, (i4'.out.trans (hb1.mono i4'.out.size)).setCell (p := ⟨w.heap.size + 1, 0, none⟩) (by simp) _⟩
      | true =>
        have hin' := hid hin
        obtain ⟨z1, z2⟩ := inB_true.1 hin
        clear hin
        by_cases hx : f ≤ x ∧ x < f + z
        · have hr1 := hid (hhit.out hin'.out hx.1 hx.2)
          have hd := hid (show (decide (f ≤ x) && decide (x < f + z)) = true by simp [hx.1, hx.2])
          clear hx
          gi_wp2_with (first
            | (refine ⟨trivial, ?_⟩; gi_at_call 27; refine (CallsIn.inRound l (callsIn_wide.2 (counts_any _ _ _ _))).mono ?_; rw [hin'.out]; rintro e w1 ⟨rfl, hb1⟩; have k1 := (hb1.cell (p := ⟨w.heap.size + 1, 0, none⟩) hWs).trans g1; have k2 := (hb1.frozen (p := ⟨w.heap.size + 1, 0, none⟩) hWs).trans g2; have l0 := (hb1.cell (p := ⟨bx, 0, none⟩) hbl).trans e0; have l1 := (hb1.cell (p := ⟨bx, 1, none⟩) hbl).trans e1; have l2 := (hb1.cell (p := ⟨w.heap.size, 0, none⟩) (by show w.heap.size < W.heap.size; omega)).trans g0; have hsz := hb1.size)
            | (refine ⟨trivial, ?_⟩; gi_at_call 31; refine (CallsIn.inRound l (callsIn_wide.2 (has_any _ _ _ (by omega) (by omega) _))).mono ?_; rw [hd.out]; rintro e w2 ⟨rfl, hb2⟩; have m1 := (hb2.cell (p := ⟨w.heap.size + 1, 0, none⟩) (by show w.heap.size + 1 < w1.heap.size; omega)).trans k1; have m2 := (hb2.frozen (p := ⟨w.heap.size + 1, 0, none⟩) (by show w.heap.size + 1 < w1.heap.size; omega)).trans k2))
          have hb12 := hid (hb1.trans (hb2.mono hb1.size))
          have hBx := hid ((Boxed.below i3'.out hb12.out hWs).set (.int .i64 (k : Int)))
          exact ⟨(KeepsFrom.of_below hb12.out).trans ((KeepsOthers.setCell _ _ _).from _), by rw [hr1.out]; exact hBx.out, (i4'.out.trans (hb12.out.mono i4'.out.size)).setCell (p := ⟨w.heap.size + 1, 0, none⟩) (by simp) _⟩
        · have hr1 := hid (hnext.out hin'.out hx)
          have hd := hid (show (decide (f ≤ x) && decide (x < f + z)) = false by
            by_cases h1 : f ≤ x
            · have : ¬ x < f + z := fun h2 => hx ⟨h1, h2⟩
              simp [this]
            · simp [h1])
          clear hx
          gi_wp2_with (first
            | (refine ⟨trivial, ?_⟩; gi_at_call 27; refine (CallsIn.inRound l (callsIn_wide.2 (counts_any _ _ _ _))).mono ?_; rw [hin'.out]; rintro e w1 ⟨rfl, hb1⟩; have l0 := (hb1.cell (p := ⟨bx, 0, none⟩) hbl).trans e0; have l1 := (hb1.cell (p := ⟨bx, 1, none⟩) hbl).trans e1; have l2 := (hb1.cell (p := ⟨w.heap.size, 0, none⟩) (by show w.heap.size < W.heap.size; omega)).trans g0; have hsz := hb1.size)
            | (refine ⟨trivial, ?_⟩; gi_at_call 31; refine (CallsIn.inRound l (callsIn_wide.2 (has_any _ _ _ (by omega) (by omega) _))).mono ?_; rw [hd.out]; rintro e w2 ⟨rfl, hb2⟩))
          have hb12 := hid (hb1.trans (hb2.mono hb1.size))
          exact ⟨KeepsFrom.of_below hb12.out, KeepX.of_below (hb12.out.mono i5), ⟨hr1.out, Boxed.below i2'.out hb12.out (by omega), Boxed.below i3'.out hb12.out hWs⟩, i4'.out.trans (hb12.out.mono i4'.out.size), by have := hb12.out.size; omega⟩
    case done =>
      rintro D W hD ⟨⟨hof, i2, i3⟩, i4, i5⟩ hK
      have hres := hid (show ofR cut x = -1 by
        have h := hof.2.2.2
        rw [List.drop_eq_nil_of_le (by rw [hly.out]; omega)] at h
        exact h.symm)
      have g1 := i3.cell
      have g2 := i3.frozen
      clear hof
      gi_wp2
      have hK' := (KeepsOthers.setCell W ⟨w.heap.size + 1, 0, none⟩ (.int .i64 (-1))).same D _ hK rfl
      refine ⟨by simp, .inl ⟨_, _, rfl, run_takeDeferred hK', ?_⟩⟩
      have hc5 := cell_kept (i3.set (.int .i64 (-1))).cell (grownBy_putObj' _ D (.deferred none)) (fun r e => by cases e; exact ⟨_, hK', rfl⟩)
      refine ⟨.int .i64 (-1), ?_, by rw [hres.out], (i4.setCell (p := ⟨w.heap.size + 1, 0, none⟩) (by simp) _).trans (belowK_b (w := w) (Nat.le_refl _) _ D _ _ (by rw [hs.out] at hD; omega) hK' rfl rfl)⟩
      simp [results, Try.f19, go_sem, hc5]
    case stop =>
      rintro D k W hD hk ⟨i3, i4⟩ hK
      simp only [Exit.inBlock, Exit.then]
      refine ⟨by simp, .inl ⟨_, _, rfl, run_takeDeferred hK, ?_⟩⟩
      have hc5 := cell_kept i3.cell (grownBy_putObj' _ D (.deferred none)) (fun r e => by cases e; exact ⟨_, hK, rfl⟩)
      refine ⟨.int .i64 (ofR cut x), ?_, rfl, i4.trans (belowK_b (w := w) (Nat.le_refl _) W D _ _ (by rw [hs.out] at hD; omega) hK rfl rfl)⟩
      simp [results, Try.f19, go_sem, hc5]
  · have hR := hid (ofR_big (x := x) hly.out h20)
    have hB := hid (((Below.refl w.heap.size w).alloc (Nat.le_refl _) (.cells #[.int .i64 x] 3)).alloc (by simp) (.cells #[.int .i64 0] 3))
    go_enter Try.func19, Try.ntmps19
    go_wp2
    exact bodyPost_ret (v := .int .i64 (-1)) (by simp [results, Try.f19, go_sem]) rfl ⟨by rw [hR.out], ((Below.refl w.heap.size w).alloc (Nat.le_refl _) _).alloc (by simp) _⟩
end Go.Proofs.Ytikjcpbhleejnaa
