/-
  The contracts of the model's functions of rounds: l12Add, RoundAdd. No condition but lengths below 2^40.
-/
import Derived.Test.YtccggcdjajehnaaRmJ
namespace Go.Proofs.Ytccggcdjajehnaa
open Go.RowKit
set_option linter.unusedVariables false
set_option linter.unusedSimpArgs false

/-- the first place whose group is not less -/
theorem tw_is {xs : List St} {s : St} {k : Nat} (hk : k ≤ xs.length) (hlow : ∀ j x, j < k → xs[j]? = some x → x.2 < s.2) (hst : ∀ x, xs[k]? = some x → ¬ x.2 < s.2) : insS xs s = xs.take k ++ [s] ++ xs.drop k := by
  have key : ∀ (l : List St) (k : Nat), k ≤ l.length → (∀ j x, j < k → l[j]? = some x → x.2 < s.2) → (∀ x, l[k]? = some x → ¬ x.2 < s.2) →
      (l.takeWhile fun x => decide (x.2 < s.2)) = l.take k ∧ (l.dropWhile fun x => decide (x.2 < s.2)) = l.drop k := by
    intro l
    induction l with
    | nil => intro k hk _ _; simp at hk; subst hk; exact ⟨rfl, rfl⟩
    | cons y l ih =>
      intro k hk h1 h2
      cases k with
      | zero =>
        have := h2 y rfl
        rw [List.takeWhile_cons, List.dropWhile_cons]
        simp [this]
      | succ k =>
        have hy := h1 0 y (by omega) rfl
        obtain ⟨a, b⟩ := ih k (by simp at hk; omega) (fun j x hj hx => h1 (j + 1) x (by omega) (by simpa using hx)) (fun x hx => h2 x (by simpa using hx))
        rw [List.takeWhile_cons, List.dropWhile_cons]
        simp [hy, a, b]
  obtain ⟨a, b⟩ := key xs k hk hlow hst
  rw [insS, a, b, List.append_assoc]; rfl
/-- is it refused? -/
theorem ad_at {gs : List Int} {xs : List St} {s : St} {k : Nat} (h : Asc2 xs) (hlow : ∀ j x, j < k → xs[j]? = some x → x.2 < s.2) (hst : ∀ x, xs[k]? = some x → ¬ x.2 < s.2) : adB gs xs s = (hasB gs s.2 && !((xs[k]?).any fun x => decide (x.2 = s.2))) := by
  rw [adB]
  congr 2
  rw [Bool.eq_iff_iff, hasB_iff, gOf_mem]
  constructor
  · rintro ⟨x, hx, e⟩
    obtain ⟨j, hj, rfl⟩ := List.getElem_of_mem hx
    have hxj : xs[j]? = some xs[j] := List.getElem?_eq_getElem hj
    rcases (show j < k ∨ j = k ∨ k < j by omega) with h1 | h1 | h1
    · have := hlow j _ h1 hxj; omega
    · subst h1; rw [hxj]; simpa using e
    · have hk : k < xs.length := by omega
      have hxk : xs[k]? = some xs[k] := List.getElem?_eq_getElem hk
      have a := hst _ hxk
      have b := List.pairwise_iff_getElem.1 h k j hk hj h1
      omega
  · intro ha
    cases hx : xs[k]? with
    | none => rw [hx] at ha; cases ha
    | some x =>
      rw [hx] at ha
      exact ⟨x, List.mem_of_getElem? hx, by simpa using ha⟩

set_option maxRecDepth 100000 in
set_option maxHeartbeats 16000000 in
theorem l12Add_any {n1 c1 n2 c2 : Nat} {A1 A2 : Option Addr} {gs : List Int} {xs : List St} {m t g : Int} {o : Ro} (hO : adA m gs xs (t, g) = o) (ha : Asc2 xs) (w : World) (hr : RdR w A1 n1 A2 n2 c2 gs xs) (hn9 : n2 + 1 < 1099511627776) :
    Calls Try.prog 47 #[rnV m (.slice A1 n1 c1) (.slice A2 n2 c2), two t g] w (RnPost2 o w) := by
  obtain ⟨W0, hW0⟩ : ∃ W0, (((w.alloc (.cells #[.int .i64 m, .slice A1 n1 c1, .slice A2 n2 c2] 28)).alloc (.cells #[.int .i64 t, .int .i64 g] 33)).alloc (.cells #[.int .i64 0, .slice none 0 0, .slice none 0 0] 28)) = W0 := ⟨_, rfl⟩
  have hB0 := hid (show Below w.heap.size w W0 by rw [← hW0]; exact below3 w _ _ _)
  have kR0 := hid (show Cs W0 (w.heap.size) 28 #[.int .i64 m, .slice A1 n1 c1, .slice A2 n2 c2] by rw [← hW0]; exact ((Cs.new w _ _).alloc _).alloc _)
  have kS0 := hid (show Cs W0 (w.heap.size + 1) 33 #[.int .i64 t, .int .i64 g] by rw [← hW0]; exact (Cs.new' _ _ _ (by simp)).alloc _)
  have kZ0 := hid (show Cs W0 (w.heap.size + 1 + 1) 28 #[.int .i64 0, .slice none 0 0, .slice none 0 0] by rw [← hW0]; exact Cs.new' _ _ _ (by simp))
  have hz0 : w.heap.size + 3 = W0.heap.size := by rw [← hW0]; simp
  have hlt0 : w.heap.size < W0.heap.size := by omega
  have hlt1 : w.heap.size + 1 < W0.heap.size := by omega
  have hlt2 : w.heap.size + 1 + 1 < W0.heap.size := by omega
  replace hz0 := hid hz0
  replace hW0 := hid hW0
  have hrw := hid hr
  have hr0 := hid (hr.below hB0.out)
  have hh1 := hr.h1
  have hh2 := hr.h2
  have hk2 := hr.k2
  have hm2 := hr.m2
  have hxl := hid hr.s.len
  have ha := hid ha
  have hO := hid hO
  clear hr
  obtain ⟨r0, r1, r2⟩ := kR0.out.three
  go_enter Try.func47, Try.ntmps47
  go_upto_region 1 with (fail)
  rw [hW0.out]
  go_wp2_with fail
  refine (l12Copy_any m _ hr0.out).mono ?_
  rintro e u1 ⟨Ga, gc, Sa, sc, rfl, oR1, hb1⟩
  have kR1 := hid (kR0.out.step hb1)
  have kS1 := hid (kS0.out.step hb1)
  have kZ1 := hid (kZ0.out.step hb1)
  have hB1 := hid (hB0.out.trans (hb1.mono (by omega)))
  have hz1 : W0.heap.size ≤ u1.heap.size := hb1.size
  have oR1 := hid oR1
  clear hb1 r0 r1 r2 kR0 kS0 kZ0 hB0 hr0
  go_upto_region 2 with (fail)
  obtain ⟨u2, hu2⟩ : ∃ u2, u1.alloc (.cells #[.int .i64 m, .slice Ga gs.length gc, .slice Sa xs.length sc] 28) = u2 := ⟨_, rfl⟩
  rw [hu2]
  have hb2 : Below u1.heap.size u1 u2 := by rw [← hu2]; exact below1 _ _
  have kO2 := hid (show Cs u2 u1.heap.size 28 #[.int .i64 m, .slice Ga gs.length gc, .slice Sa xs.length sc] by rw [← hu2]; exact Cs.new _ _ _)
  have kR2 := hid (kR1.out.step hb2)
  have kS2 := hid (kS1.out.step hb2)
  have kZ2 := hid (kZ1.out.step hb2)
  have hB2 := hid (hB1.out.trans (hb2.mono (by omega)))
  have oR2 := hid (oR1.out.below hb2)
  have hGl := hid (fun b hb => (oR1.out.og.lt b hb).2)
  have hSl := hid (fun b hb => (oR1.out.os.lt b hb).2)
  obtain ⟨ob, hob⟩ : ∃ ob, u1.heap.size = ob := ⟨_, rfl⟩
  have hzo := kO2.out.lt
  have hz0' : w.heap.size + 1 + 1 < ob := by omega
  rw [hob] at kO2 hzo hGl hSl ⊢
  have hlo : W0.heap.size ≤ ob := by omega
  clear hu2 hb2 hob kR1 kS1 kZ1 hB1 oR1 hz1
  go_upto_block 0 with (fail)
  go_cut [7] (fun v wx => ∃ k : Nat, v = .int .i64 k ∧ k ≤ n2 ∧ Hid (∀ j x, j < k → xs[j]? = some x → x.2 < (t, g).2) ∧ Hid (∀ x, xs[k]? = some x → ¬ x.2 < (t, g).2) ∧ Hid (Below u2.heap.size u2 wx))
  case first =>
    go_wp2_with fail
    go_loopw [7] (fun i wr => ∃ k : Nat, k ≤ n2 ∧ i = .int .i64 k ∧ Hid (∀ j x, j < k → xs[j]? = some x → x.2 < (t, g).2) ∧ Hid (Below u2.heap.size u2 wr)) (fun i _ => n2 - (intOf i).toNat)
    case atStart => exact ⟨0, by omega, rfl, hid (fun j x h => by omega), hid (Below.refl _ _)⟩
    case round =>
      obtain ⟨k, hk, rfl, hlow, hB⟩ := hrel
      obtain ⟨-, -, q2⟩ := (kR2.out.step hB.out).three
      obtain ⟨s0, s1, -, -⟩ := (kS2.out.step hB.out).two
      have XS : ∀ x : BW wr, x.wd.cell? ⟨w.heap.size + 1, 1, none⟩ = some (.int .i64 g) := fun x => x.cell s1
      by_cases hlt : k < n2
      · obtain ⟨b, off, t', g', rfl, hx, hbb, v0, v1⟩ := (hrw.out.below (hB2.out.trans (hB.out.mono hB2.out.size))).s.at_ hlt
        have X2 : ∀ x : BW wr, x.wd.cell? ⟨w.heap.size, 2, none⟩ = some (.slice (some ⟨b, off, none⟩) n2 c2) := fun x => x.cell q2
        have V1 : ∀ x : BW wr, x.wd.cell? ⟨b, off + k * 2 + 1, none⟩ = some (.int .i64 g') := fun x => x.cell v1
        have i0 : (0 : Int) ≤ (k : Int) := by omega
        have i1 : (k : Int) < (n2 : Int) := by omega
        have hdk : decide ((k : Int) < (n2 : Int)) = true := by simpa using i1
        clear q2 s0 s1 v0 v1
        by_cases hg : g' < g
        · have hgd : decide (g' < g) = true := by simpa using hg
          have hlow2 := hid (fun j x (hj : j < k + 1) (hjx : xs[j]? = some x) => by
            by_cases e : j = k
            · subst e; rw [hx.out] at hjx; injection hjx with e; rw [← e]; exact hg
            · exact hlow.out j x (by omega) hjx : ∀ j x, j < k + 1 → xs[j]? = some x → x.2 < (t, g).2)
          clear hg
          go_wp2_with fail
          refine wp_region_below (by kernel_rfl) (by kernel_rfl) ?_
          repeat (go_big_quiet_step (fail))
          refine wpQuiet_nil ?_
          intro w1 hb1
          have hB1 := hid (hB.out.trans (hb1.mono hB.out.size))
          clear hb1
          go_wp2
          go_roundw
          case rel => exact ⟨k + 1, by omega, by go_num, hlow2, hB1⟩
          case measure => simp [intOf]; omega
        · have hgd : decide (g' < g) = false := by simpa using hg
          have hst := hid (fun x (hjx : xs[k]? = some x) => by
            rw [hx.out] at hjx; injection hjx with e; rw [← e]; exact hg : ∀ x, xs[k]? = some x → ¬ x.2 < (t, g).2)
          clear hg
          go_wp2_with fail
          refine wp_region_below (by kernel_rfl) (by kernel_rfl) ?_
          repeat (go_big_quiet_step (fail))
          refine wpQuiet_nil ?_
          intro w1 hb1
          have hB1 := hid (hB.out.trans (hb1.mono hB.out.size))
          clear hb1
          go_wp2
          go_meet
          exact ⟨k, rfl, hk, hlow, hst, hB1⟩
      · have X2 : ∀ x : BW wr, x.wd.cell? ⟨w.heap.size, 2, none⟩ = some (.slice A2 n2 c2) := fun x => x.cell q2
        have hdk : decide ((k : Int) < (n2 : Int)) = false := by simp; omega
        have hst := hid (fun x (hjx : xs[k]? = some x) => by
          have := (List.getElem?_eq_some_iff.1 hjx).1
          rw [hxl.out] at this; omega : ∀ x, xs[k]? = some x → ¬ x.2 < (t, g).2)
        clear q2 s0 s1
        go_wp2_with fail
        refine wp_region_below (by kernel_rfl) (by kernel_rfl) ?_
        repeat (go_big_quiet_step (fail))
        refine wpQuiet_nil ?_
        intro w1 hb1
        have hB1 := hid (hB.out.trans (hb1.mono hB.out.size))
        clear hb1
        go_wp2
        go_meet
        exact ⟨k, rfl, hk, hlow, hst, hB1⟩
  case rest =>
    obtain ⟨k, rfl, hk, hlow, hst, hb3⟩ := hcut
    obtain ⟨u3, rfl⟩ : ∃ u3, u3 = wc := ⟨_, rfl⟩
    have kO3 := hid (kO2.out.step hb3.out)
    have kR3 := hid (kR2.out.step hb3.out)
    have kS3 := hid (kS2.out.step hb3.out)
    have kZ3 := hid (kZ2.out.step hb3.out)
    have hB3 := hid (hB2.out.trans (hb3.out.mono hB2.out.size))
    have oR3 := hid (oR2.out.below hb3.out)
    have hz3 : ob < u3.heap.size := Nat.lt_of_lt_of_le hzo hb3.out.size
    have hadk := hid (ad_at (gs := gs) ha.out hlow.out hst.out)
    have hins := hid (tw_is (by rw [hxl.out]; exact hk) hlow.out hst.out)
    have hr3 := hid (hrw.out.below hB3.out)
    clear kO2 kR2 kS2 kZ2 hB2 oR2 hb3 hlow hst
    go_upto_region 5 with (fail)
    go_cut [51] (fun v wx => v = .bool (!adB gs xs (t, g)) ∧ Hid (Below u3.heap.size u3 wx))
    case first =>
      obtain ⟨-, q1, q2⟩ := kR3.out.three
      obtain ⟨-, s1, -, -⟩ := kS3.out.two
      have XS : ∀ x : BW u3, x.wd.cell? ⟨w.heap.size + 1, 1, none⟩ = some (.int .i64 g) := fun x => x.cell s1
      have X1 : ∀ x : BW u3, x.wd.cell? ⟨w.heap.size, 1, none⟩ = some (.slice A1 n1 c1) := fun x => x.cell q1
      have HR : Hid (∀ x : BW u3, RdI x.wd x.wd.heap.size A1 n1 gs) := hid (fun x => x.rdi hr3.out.g)
      have HE : Hid (∀ b, hasB gs g = b → ∀ x : BW u3, Calls Try.prog 48 #[.slice A1 n1 c1, .int .i64 g] x.wd fun e w' => e = .returned (.bool b) ∧ x.wd = w') := hid (fun b hb x => l1Has_as hb _ (HR.out x) hh1)
      cases hH : hasB gs g with
      | false =>
        have hv : (!adB gs xs (t, g)) = true := by rw [hadk.out, hH]; rfl
        have X2 : ∀ x : BW u3, x.wd.cell? ⟨w.heap.size, 2, none⟩ = some (.slice A2 n2 c2) := fun x => x.cell q2
        have hH := hid hH
        replace hv := hid hv; clear q1 q2 s1
        refine wp_region_below (by kernel_rfl) (by kernel_rfl) ?_
        repeat (go_big_quiet_step ((go_at_call 48; exact BW.same _ (HE.out _ hH.out _))))
        refine wpQuiet_nil ?_
        intro w1 hb1
        have hb1 := hid hb1
        go_wp2_with fail
        go_meet
        exact ⟨by rw [hv.out], hb1⟩
      | true =>
        by_cases hlt : k < n2
        · obtain ⟨b, off, t', g', rfl, hx, hbb, v0, v1⟩ := hr3.out.s.at_ hlt
          have X2 : ∀ x : BW u3, x.wd.cell? ⟨w.heap.size, 2, none⟩ = some (.slice (some ⟨b, off, none⟩) n2 c2) := fun x => x.cell q2
          have V1 : ∀ x : BW u3, x.wd.cell? ⟨b, off + k * 2 + 1, none⟩ = some (.int .i64 g') := fun x => x.cell v1
          have i0 : (0 : Int) ≤ (k : Int) := by omega
          have i1 : (k : Int) < (n2 : Int) := by omega
          have hdk : decide ((k : Int) < (n2 : Int)) = true := by simpa using i1
          by_cases he : g' = g
          · have hge : (g' == g) = true := by simp [he]
            have hv : (!adB gs xs (t, g)) = true := by rw [hadk.out, hH, hx.out]; simp [he]
            have hH := hid hH
            replace hv := hid hv; clear q1 q2 s1 v0 v1 he
            refine wp_region_below (by kernel_rfl) (by kernel_rfl) ?_
            repeat (go_big_quiet_step ((go_at_call 48; exact BW.same _ (HE.out _ hH.out _))))
            refine wpQuiet_nil ?_
            intro w1 hb1
            have hb1 := hid hb1
            go_wp2_with fail
            go_meet
            exact ⟨by rw [hv.out], hb1⟩
          · have hge : (g' == g) = false := by simp [he]
            have hv : (!adB gs xs (t, g)) = false := by rw [hadk.out, hH, hx.out]; simp [he]
            have hH := hid hH
            replace hv := hid hv; clear q1 q2 s1 v0 v1 he
            refine wp_region_below (by kernel_rfl) (by kernel_rfl) ?_
            repeat (go_big_quiet_step ((go_at_call 48; exact BW.same _ (HE.out _ hH.out _))))
            refine wpQuiet_nil ?_
            intro w1 hb1
            have hb1 := hid hb1
            go_wp2_with fail
            go_meet
            exact ⟨by rw [hv.out], hb1⟩
        · have X2 : ∀ x : BW u3, x.wd.cell? ⟨w.heap.size, 2, none⟩ = some (.slice A2 n2 c2) := fun x => x.cell q2
          have hdk : decide ((k : Int) < (n2 : Int)) = false := by simp; omega
          have hv : (!adB gs xs (t, g)) = false := by
            have hx : xs[k]? = none := List.getElem?_eq_none (by rw [hxl.out]; omega)
            rw [hadk.out, hH, hx]; rfl
          have hH := hid hH
          replace hv := hid hv; clear q1 q2 s1
          refine wp_region_below (by kernel_rfl) (by kernel_rfl) ?_
          repeat (go_big_quiet_step ((go_at_call 48; exact BW.same _ (HE.out _ hH.out _))))
          refine wpQuiet_nil ?_
          intro w1 hb1
          have hb1 := hid hb1
          go_wp2_with fail
          go_meet
          exact ⟨by rw [hv.out], hb1⟩
    case rest =>
      obtain ⟨rfl, hb4⟩ := hcut
      obtain ⟨u4, rfl⟩ : ∃ u4, u4 = wc := ⟨_, rfl⟩
      have kO4 := hid (kO3.out.step hb4.out)
      have kR4 := hid (kR3.out.step hb4.out)
      have kS4 := hid (kS3.out.step hb4.out)
      have kZ4 := hid (kZ3.out.step hb4.out)
      have hB4 := hid (hB3.out.trans (hb4.out.mono hB3.out.size))
      have oR4 := hid (oR3.out.below hb4.out)
      have hz4 : ob < u4.heap.size := Nat.lt_of_lt_of_le hz3 hb4.out.size
      have hr4 := hid (hrw.out.below hB4.out)
      clear kO3 kR3 kS3 kZ3 hB3 oR3 hb4 hr3 hadk
      cases had : adB gs xs (t, g) with
      | false =>
        have hO' : o = ⟨m, gs, xs, false⟩ := by rw [← hO.out, adA, had]; rfl
        subst hO'
        have had := hid had
        obtain ⟨r0, r1, r2⟩ := kO4.out.three
        obtain ⟨q0, q1, q2⟩ := kZ4.out.three
        obtain ⟨g0, g1, g2⟩ := kZ4.out.free3
        have hY := hid (kZ4.out.set3 (.int .i64 m) (.slice Ga gs.length gc) (.slice Sa xs.length sc)).three
        have hO9 := hid (((oR4.out.setLow (p := ⟨w.heap.size + 1 + 1, 0, none⟩) hlt2 (.int .i64 m)).setLow (p := ⟨w.heap.size + 1 + 1, 1, none⟩) hlt2 (.slice Ga gs.length gc)).setLow (p := ⟨w.heap.size + 1 + 1, 2, none⟩) hlt2 (.slice Sa xs.length sc))
        go_wp2
        obtain ⟨y0, y1, y2⟩ := hY.out
        refine bodyPost_ret (v := .tuple #[rnV m (.slice Ga gs.length gc) (.slice Sa xs.length sc), .bool false]) (by simp [results, Try.results47, go_sem, y0, y1, y2]) rfl ?_
        exact ⟨Ga, gc, Sa, sc, rfl, hO9.out.more (lo' := w.heap.size) (by omega), ((hB4.out.setCell (by simp <;> omega) _).setCell (by simp <;> omega) _).setCell (by simp <;> omega) _⟩
      | true =>
        obtain ⟨L, hL⟩ : ∃ L, insS xs (t, g) = L := ⟨_, rfl⟩
        have hO' : o = ⟨m, gs, L, true⟩ := by rw [← hO.out, adA, if_pos had, hL]
        subst hO'
        have hLL := hid (show xs.take k ++ [(t, g)] ++ xs.drop k = L from hins.out.symm.trans hL)
        have hL := hid hL
        have had := hid had
        go_upto_region 7 with (fail)
        obtain ⟨A', hs13, hcut⟩ := slice_from A2 n2 c2 k (k : Int) rfl hk
        have hcut' := hid (hcut hk2)
        clear hcut
        have D0 : Hid (Below (w.heap.size + 3) u4 u4.drew) := hid (Below.refl _ _).drew
        have KA : Hid (∀ X, Below (w.heap.size + 3) u4 X → X.cell? ⟨w.heap.size, 2, none⟩ = some (.slice A2 n2 c2) ∧ X.cell? ⟨w.heap.size + 1, 0, none⟩ = some (.int .i64 t) ∧ X.cell? ⟨w.heap.size + 1, 1, none⟩ = some (.int .i64 g)) := hid (fun X h => ⟨(kR4.out.below h (by omega)).cell 2, (kS4.out.below h (by omega)).cell 0, (kS4.out.below h (by omega)).cell 1⟩)
        have v1 : Below u4.heap.size u4 ((u4.alloc (.cells #[] 33)).drew) := (below1 u4 _).drew
        have v0 : Below u4.heap.size u4 ((u4.alloc (.cells #[.int .i64 t, .int .i64 g] 33)).drew) := (below1 u4 _).drew
        have v2 : Below u4.heap.size u4 (((u4.alloc (.cells #[] 33)).alloc (.cells #[.int .i64 t, .int .i64 g] 33)).drew) := (below2 u4 _ _).drew
        have v3 : Below u4.heap.size u4 (((u4.alloc (.cells #[.int .i64 t, .int .i64 g] 33)).alloc (.cells #[] 33)).drew) := (below2 u4 _ _).drew
        have hz34 : w.heap.size + 3 ≤ u4.heap.size := by omega
        have V1 := hid (v1.mono hz34)
        have V0 := hid (v0.mono hz34)
        have V2 := hid (v2.mono hz34)
        have V3 := hid (v3.mono hz34)
        have r1 : Hid (RdS ((u4.alloc (.cells #[] 33)).drew) A2 k (xs.take k)) := hid ((hr4.out.s.takeS hk).below v1)
        have r2 : Hid (RdS (((u4.alloc (.cells #[] 33)).alloc (.cells #[.int .i64 t, .int .i64 g] 33)).drew) A2 k (xs.take k)) := hid ((hr4.out.s.takeS hk).below v2)
        have r3 : Hid (RdS (((u4.alloc (.cells #[.int .i64 t, .int .i64 g] 33)).alloc (.cells #[] 33)).drew) A2 k (xs.take k)) := hid ((hr4.out.s.takeS hk).below v3)
        have o1 : Hid (OwS ((u4.alloc (.cells #[] 33)).drew) u4.heap.size (.slice (some ⟨u4.heap.size, 0, none⟩) 0 0) []) := hid ((OwS.lit0 u4 rfl).drew_)
        have o2 : Hid (OwS (((u4.alloc (.cells #[] 33)).alloc (.cells #[.int .i64 t, .int .i64 g] 33)).drew) u4.heap.size (.slice (some ⟨u4.heap.size, 0, none⟩) 0 0) []) := hid (((OwS.lit0 u4 rfl).below (below1 _ _)).drew_)
        have o3 : Hid (OwS (((u4.alloc (.cells #[.int .i64 t, .int .i64 g] 33)).alloc (.cells #[] 33)).drew) u4.heap.size (.slice (some ⟨u4.heap.size + 1, 0, none⟩) 0 0) []) := hid (((OwS.lit0 (b := u4.heap.size + 1) (u4.alloc (.cells #[.int .i64 t, .int .i64 g] 33)) (by simp)).more (Nat.le_succ _)).drew_)
        have z1 : Hid (u4.heap.size ≤ ((u4.alloc (.cells #[] 33)).drew).heap.size) := hid v1.size
        have z2 : Hid (u4.heap.size ≤ (((u4.alloc (.cells #[] 33)).alloc (.cells #[.int .i64 t, .int .i64 g] 33)).drew).heap.size) := hid v2.size
        have z3 : Hid (u4.heap.size ≤ (((u4.alloc (.cells #[.int .i64 t, .int .i64 g] 33)).alloc (.cells #[] 33)).drew).heap.size) := hid v3.size
        have k1 : Hid (Kp (fun b => u4.heap.size ≤ b) u4 ((u4.alloc (.cells #[] 33)).drew)) := hid (Kp.of_below v1)
        have k2 : Hid (Kp (fun b => u4.heap.size ≤ b) u4 (((u4.alloc (.cells #[] 33)).alloc (.cells #[.int .i64 t, .int .i64 g] 33)).drew)) := hid (Kp.of_below v2)
        have k3 : Hid (Kp (fun b => u4.heap.size ≤ b) u4 (((u4.alloc (.cells #[.int .i64 t, .int .i64 g] 33)).alloc (.cells #[] 33)).drew)) := hid (Kp.of_below v3)
        have l2 : Hid (Cs (((u4.alloc (.cells #[] 33)).alloc (.cells #[.int .i64 t, .int .i64 g] 33)).drew) (u4.heap.size + 1) 33 #[.int .i64 t, .int .i64 g]) := hid (Cs.new' _ _ _ (by simp))
        have l3 : Hid (Cs (((u4.alloc (.cells #[.int .i64 t, .int .i64 g] 33)).alloc (.cells #[] 33)).drew) u4.heap.size 33 #[.int .i64 t, .int .i64 g]) := hid ((Cs.new _ _ _).alloc _)
        have a4 : Hid (([] : List St).length + k < 1099511627776) := hid (by simp; omega)
        have a5 : Hid ((xs.take k).length + 1 < 1099511627776) := hid (by rw [List.length_take, hxl.out]; omega)
        have a6 : Hid ((xs.take k ++ [(t, g)]).length + (n2 - k) < 1099511627776) := hid (by rw [List.length_append, List.length_take, hxl.out]; simp; omega)
        have j1 : (k : Int) ≤ (c2 : Int) := by omega
        have j0 : (0 : Int) ≤ (k : Int) := by omega
        have j2 : (k : Int) ≤ (n2 : Int) := by omega
        have f2 := kO4.out.frozen 2
        have hbase : ∀ X, Kp (fun b => u4.heap.size ≤ b) u4 X → Below (w.heap.size + 3) u4 X := fun X h => h.base hz34 (fun i h => Nat.le_trans hz34 h)
        have hbase4 : ∀ X, Kp (fun b => u4.heap.size ≤ b) u4 X → Below u4.heap.size u4 X := fun X h => h.base (Nat.le_refl _) (fun i h => h)
        have hbase := hid hbase
        have hbase4 := hid hbase4
        clear v0 v1 v2 v3
        go_region_held3 (fun X => X.cell? ⟨w.heap.size, 2, none⟩ = some (.slice A2 n2 c2) ∧ X.cell? ⟨w.heap.size + 1, 0, none⟩ = some (.int .i64 t) ∧ X.cell? ⟨w.heap.size + 1, 1, none⟩ = some (.int .i64 g))
          (first | with_reducible exact KA.out _ D0.out | with_reducible exact KA.out _ V1.out | with_reducible exact KA.out _ V2.out | with_reducible exact KA.out _ V3.out | with_reducible exact KA.out _ V0.out | with_reducible exact KA.out _ D13.out | with_reducible exact KA.out _ D13a.out | with_reducible exact KA.out _ D14.out | with_reducible exact KA.out _ D15.out | with_reducible exact KA.out _ D16.out)
          (first | ((first | refine step_appS rfl und_st (.tmp 53) (.tmp 57) rfl (B := u4.heap.size) (v := .slice (some ⟨u4.heap.size, 0, none⟩) 0 0) (zs := []) (ys := xs.take k) (A := A2) (m := k) rfl rfl ?_ ?_ ?_ a4.out ?_ | refine step_appS rfl und_st (.tmp 53) (.tmp 57) rfl (B := u4.heap.size) (v := .slice (some ⟨u4.heap.size + 1, 0, none⟩) 0 0) (zs := []) (ys := xs.take k) (A := A2) (m := k) rfl rfl ?_ ?_ ?_ a4.out ?_); (first | with_reducible exact o1.out | with_reducible exact o2.out | with_reducible exact o3.out); (first | with_reducible exact r1.out | with_reducible exact r2.out | with_reducible exact r3.out); (first | with_reducible exact z1.out | with_reducible exact z2.out | with_reducible exact z3.out); intro v13 w13 ho13 hg13 hv13; rw [List.nil_append] at ho13; have ho13' := hid ho13; have hk13 : Hid (Kp (fun b => u4.heap.size ≤ b) u4 w13) := hid (by (refine Kp.grown ?_ hg13 (fun b hb => .inl (by injection hb with hb; (first | exact Nat.le_of_eq hb | exact Nat.le_of_succ_le (Nat.le_of_eq hb))))); (first | with_reducible exact k1.out | with_reducible exact k2.out | with_reducible exact k3.out)); (first | (have hl13 : Hid (Cs w13 (u4.heap.size + 1) 33 #[.int .i64 t, .int .i64 g]) := by ((refine hid ?_); (with_reducible refine grown_cs l2.out hg13 ?_); (intro h; injection h with h; simp at h))) | (have hl13 : Hid (Cs w13 u4.heap.size 33 #[.int .i64 t, .int .i64 g]) := by ((refine hid ?_); (with_reducible refine grown_cs l3.out hg13 ?_); (intro h; injection h with h; simp at h))) | skip); have D13 := hid (hbase.out _ hk13.out); have D13a := hid (hbase.out _ (hk13.out.alloc (.cells #[.int .i64 t, .int .i64 g] 33))); have hz13 := hk13.out.size; clear ho13 hg13 hv13) | ((refine step_appS rfl und_st (.tmp 58) (.tmp 60) rfl (B := u4.heap.size) (v := v13) (zs := xs.take k) (ys := [(t, g)]) (m := 1) rfl rfl ?_ ?_ ?_ a5.out ?_); (first | with_reducible exact ho13'.out | with_reducible exact OwS.below ho13'.out (below1 _ _)); (first | with_reducible exact RdS.of_cs hl13.out | with_reducible exact RdS.of_cs (Cs.new w13 _ _)); (first | with_reducible exact hz13 | (simp; omega)); intro v14 w14 ho14 hg14 hv14; have ho14' := hid ho14; have hk14 : Hid (Kp (fun b => u4.heap.size ≤ b) u4 w14) := hid (by (refine Kp.grown ?_ hg14 (fun b hb => .inl (ho13'.out.lt b hb).1)); (first | with_reducible exact hk13.out | with_reducible exact hk13.out.alloc _)); have D14 := hid (hbase.out _ hk14.out); have hz14 := hid hk14.out.size; have hr14 : Hid (RdS w14 A' (n2 - k) (xs.drop k)) := hid (hcut'.out _ _ (hr4.out.s.below (hbase4.out _ hk14.out))); clear ho14 hg14 hv14) | ((refine step_appS rfl und_st (.tmp 61) (.tmp 65) rfl (B := u4.heap.size) (v := v14) (zs := xs.take k ++ [(t, g)]) (ys := xs.drop k) (A := A') (m := n2 - k) rfl rfl ho14'.out hr14.out hz14.out a6.out ?_); intro v15 w15 ho15 hg15 hv15; rw [hLL.out] at ho15; obtain ⟨A15, pcap, rfl, -, -⟩ := ho15.form; have ho15' := hid ho15; have hk15 : Hid (Kp (fun b => u4.heap.size ≤ b) u4 w15) := hid (Kp.grown hk14.out hg15 (fun b hb => .inl (ho14'.out.lt b hb).1)); have D15 := hid (hbase.out _ hk15.out); have D16 := hid (D15.out.setCell (p := ⟨ob, 2, none⟩) (by show w.heap.size + 3 ≤ ob; omega) (.slice A15 L.length pcap)); have kO15 := hid (kO4.out.kp hk15.out (by omega)); have f15 := kO15.out.frozen 2; have e15 := kO15.out.three.2.2; clear ho15 hg15 hv15))
        all_goals
          obtain ⟨u5, hu5⟩ : ∃ u5, (w15.setCell ⟨ob, 2, none⟩ (.slice A15 L.length pcap)) = u5 := ⟨_, rfl⟩
          rw [hu5]
          have hB5 := hid (show Below w.heap.size w u5 by rw [← hu5]; exact hB4.out.trans (D16.out.mono (by omega)))
          have kZ5 := hid (show Cs u5 (w.heap.size + 1 + 1) 28 #[.int .i64 0, .slice none 0 0, .slice none 0 0] by rw [← hu5]; exact kZ4.out.below D16.out (by omega))
          have kO5 := hid (show Cs u5 ob 28 #[.int .i64 m, .slice Ga gs.length gc, .slice A15 L.length pcap] by rw [← hu5]; exact kO15.out.set 2 _)
          have oR5 := hid (show OwR u5 W0.heap.size Ga gs.length gc A15 L.length pcap gs L by
            rw [← hu5]
            refine ⟨?_, ?_, rfl, rfl⟩
            · exact ((oR4.out.og.kp hk15.out (fun b hb h => by have := hGl.out b hb; omega)).setFar (fun e => by have := hGl.out _ e; simp at this) _)
            · exact (ho15'.out.setLow (by show ob < u4.heap.size; omega) _).more (by omega))
          clear hu5 kO15 e15 f15 D16 D15 D14 D13 D13a hk15 hk14 hk13 ho15' ho14' ho13' hz14 hz13 hr14 hLL KA
          (try clear hl13)
          obtain ⟨r0, r1, r2⟩ := kO5.out.three
          obtain ⟨q0, q1, q2⟩ := kZ5.out.three
          obtain ⟨g0, g1, g2⟩ := kZ5.out.free3
          have hY := hid (kZ5.out.set3 (.int .i64 m) (.slice Ga gs.length gc) (.slice A15 L.length pcap)).three
          have hO9 := hid (((oR5.out.setLow (p := ⟨w.heap.size + 1 + 1, 0, none⟩) hlt2 (.int .i64 m)).setLow (p := ⟨w.heap.size + 1 + 1, 1, none⟩) hlt2 (.slice Ga gs.length gc)).setLow (p := ⟨w.heap.size + 1 + 1, 2, none⟩) hlt2 (.slice A15 L.length pcap))
          go_wp2
          obtain ⟨y0, y1, y2⟩ := hY.out
          refine bodyPost_ret (v := .tuple #[rnV m (.slice Ga gs.length gc) (.slice A15 L.length pcap), .bool true]) (by simp [results, Try.results47, go_sem, y0, y1, y2]) rfl ?_
          exact ⟨Ga, gc, A15, pcap, rfl, hO9.out.more (lo' := w.heap.size) (by omega), ((hB5.out.setCell (by simp <;> omega) _).setCell (by simp <;> omega) _).setCell (by simp <;> omega) _⟩

set_option maxHeartbeats 8000000 in
theorem RoundAdd_spec {n1 c1 n2 c2 : Nat} {A1 A2 : Option Addr} {gs : List Int} {xs : List St} {m t g : Int} {o : Ro} (hO : adR m gs xs (t, g) = o) (w : World) (hr : RdR w A1 n1 A2 n2 c2 gs xs) :
    Calls Try.prog 21 #[rnV m (.slice A1 n1 c1) (.slice A2 n2 c2), two t g] w (RnPost2 o w) := by
  obtain ⟨W0, hW0⟩ : ∃ W0, (((w.alloc (.cells #[.int .i64 m, .slice A1 n1 c1, .slice A2 n2 c2] 28)).alloc (.cells #[.int .i64 t, .int .i64 g] 33)).alloc (.cells #[.int .i64 0, .slice none 0 0, .slice none 0 0] 28)) = W0 := ⟨_, rfl⟩
  have hB0 := hid (show Below w.heap.size w W0 by rw [← hW0]; exact below3 w _ _ _)
  have kR0 := hid (show Cs W0 (w.heap.size) 28 #[.int .i64 m, .slice A1 n1 c1, .slice A2 n2 c2] by rw [← hW0]; exact ((Cs.new w _ _).alloc _).alloc _)
  have kS0 := hid (show Cs W0 (w.heap.size + 1) 33 #[.int .i64 t, .int .i64 g] by rw [← hW0]; exact (Cs.new' _ _ _ (by simp)).alloc _)
  have kZ0 := hid (show Cs W0 (w.heap.size + 1 + 1) 28 #[.int .i64 0, .slice none 0 0, .slice none 0 0] by rw [← hW0]; exact Cs.new' _ _ _ (by simp))
  have hz0 : w.heap.size + 3 = W0.heap.size := by rw [← hW0]; simp
  have hlt0 : w.heap.size < W0.heap.size := by omega
  have hlt1 : w.heap.size + 1 < W0.heap.size := by omega
  have hlt2 : w.heap.size + 1 + 1 < W0.heap.size := by omega
  replace hz0 := hid hz0
  replace hW0 := hid hW0
  have hr0 := hid (hr.below hB0.out)
  have hxl := hr.s.len
  obtain ⟨r0, r1, r2⟩ := kR0.out.three
  cases hb : rvB m gs xs with
  | false =>
    have hO' : o = ro0 := by rw [← hO, adR, hb]; rfl
    subst hO'
    have hb := hid hb
    clear hO hr
    go_enter Try.func21, Try.ntmps21
    go_upto_region 1 with (fail)
    rw [hW0.out]
    go_wp2_with fail
    refine (RoundValid_spec hb.out _ hr0.out).mono ?_
    rintro e u1 ⟨rfl, hb1⟩
    have kZ1 := hid (kZ0.out.step hb1)
    have hB1 := hid (hB0.out.trans (hb1.mono (by omega)))
    clear hb1
    obtain ⟨q0, q1, q2⟩ := kZ1.out.three
    obtain ⟨g0, g1, g2⟩ := kZ1.out.free3
    have hY := hid (kZ1.out.set3 (.int .i64 0) (.slice none 0 0) (.slice none 0 0)).three
    go_wp2
    obtain ⟨y0, y1, y2⟩ := hY.out
    refine bodyPost_ret (v := .tuple #[rnV 0 (.slice none 0 0) (.slice none 0 0), .bool false]) (by simp [results, Try.results21, go_sem, y0, y1, y2]) rfl ?_
    exact ⟨none, 0, none, 0, rfl, OwR.nil_ _ _, ((hB1.out.setCell (by simp <;> omega) _).setCell (by simp <;> omega) _).setCell (by simp <;> omega) _⟩
  | true =>
    have hx5 := got_len (rvB_true.1 hb).2.2 (rvB_true.1 hb).1
    have hn9 : n2 + 1 < 1099511627776 := by omega
    have hasc := hid (rvB_true.1 hb).1.2
    clear hx5 hr
    cases hs : stB t g with
    | false =>
      have hO' : o = ro0 := by rw [← hO, adR, show okS (t, g) = false from hs, Bool.and_false]; rfl
      subst hO'
      have hb := hid hb
      have hs := hid hs
      clear hO
      go_enter Try.func21, Try.ntmps21
      go_upto_region 1 with (fail)
      rw [hW0.out]
      go_wp2_with fail
      refine (RoundValid_spec hb.out _ hr0.out).mono ?_
      rintro e u1 ⟨rfl, hb1⟩
      have kS1 := hid (kS0.out.step hb1)
      have kZ1 := hid (kZ0.out.step hb1)
      have hB1 := hid (hB0.out.trans (hb1.mono (by omega)))
      have hz1 : W0.heap.size ≤ u1.heap.size := hb1.size
      clear hb1
      obtain ⟨s0, s1, -, -⟩ := kS1.out.two
      go_wp2_with fail
      refine (StampValid_spec_as hs.out _).mono ?_
      rintro e u2 ⟨rfl, hb2⟩
      have kZ2 := hid (kZ1.out.step hb2)
      have hB2 := hid (hB1.out.trans (hb2.mono (by omega)))
      clear hb2
      obtain ⟨q0, q1, q2⟩ := kZ2.out.three
      obtain ⟨g0, g1, g2⟩ := kZ2.out.free3
      have hY := hid (kZ2.out.set3 (.int .i64 0) (.slice none 0 0) (.slice none 0 0)).three
      go_wp2
      obtain ⟨y0, y1, y2⟩ := hY.out
      refine bodyPost_ret (v := .tuple #[rnV 0 (.slice none 0 0) (.slice none 0 0), .bool false]) (by simp [results, Try.results21, go_sem, y0, y1, y2]) rfl ?_
      exact ⟨none, 0, none, 0, rfl, OwR.nil_ _ _, ((hB2.out.setCell (by simp <;> omega) _).setCell (by simp <;> omega) _).setCell (by simp <;> omega) _⟩
    | true =>
      have hO' : adA m gs xs (t, g) = o := by rw [← hO, adR, hb, show okS (t, g) = true from hs]; rfl
      have hO' := hid hO'
      have hb := hid hb
      have hs := hid hs
      clear hO
      go_enter Try.func21, Try.ntmps21
      go_upto_region 1 with (fail)
      rw [hW0.out]
      go_wp2_with fail
      refine (RoundValid_spec hb.out _ hr0.out).mono ?_
      rintro e u1 ⟨rfl, hb1⟩
      have kR1 := hid (kR0.out.step hb1)
      have kS1 := hid (kS0.out.step hb1)
      have kZ1 := hid (kZ0.out.step hb1)
      have hB1 := hid (hB0.out.trans (hb1.mono (by omega)))
      have hr1 := hid (hr0.out.below hb1)
      have hz1 : W0.heap.size ≤ u1.heap.size := hb1.size
      clear hb1 r0 r1 r2
      obtain ⟨s0, s1, -, -⟩ := kS1.out.two
      go_wp2_with fail
      refine (StampValid_spec_as hs.out _).mono ?_
      rintro e u2 ⟨rfl, hb2⟩
      have kR2 := hid (kR1.out.step hb2)
      have kS2 := hid (kS1.out.step hb2)
      have kZ2 := hid (kZ1.out.step hb2)
      have hB2 := hid (hB1.out.trans (hb2.mono (by omega)))
      have hr2 := hid (hr1.out.below hb2)
      have hz2 : W0.heap.size ≤ u2.heap.size := Nat.le_trans hz1 hb2.size
      clear hb2 s0 s1
      obtain ⟨r0, r1, r2⟩ := kR2.out.three
      obtain ⟨s0, s1, -, -⟩ := kS2.out.two
      go_wp2_with fail
      refine (l12Add_any hO'.out hasc.out _ hr2.out hn9).mono ?_
      rintro e u3 ⟨Aa, ca, Ab, cb, rfl, oR, hb3⟩
      have kZ3 := hid (kZ2.out.step hb3)
      have hB3 := hid (hB2.out.trans (hb3.mono (by omega)))
      have oR := hid oR
      clear hb3 hO'
      obtain ⟨om, og, ox, ok⟩ := o
      obtain ⟨q0, q1, q2⟩ := kZ3.out.three
      obtain ⟨g0, g1, g2⟩ := kZ3.out.free3
      have hY := hid (kZ3.out.set3 (.int .i64 om) (.slice Aa og.length ca) (.slice Ab ox.length cb)).three
      have hO := hid (((oR.out.setLow (p := ⟨w.heap.size + 1 + 1, 0, none⟩) (by simp; omega) (.int .i64 om)).setLow (p := ⟨w.heap.size + 1 + 1, 1, none⟩) (by simp; omega) (.slice Aa og.length ca)).setLow (p := ⟨w.heap.size + 1 + 1, 2, none⟩) (by simp; omega) (.slice Ab ox.length cb))
      go_wp2
      obtain ⟨y0, y1, y2⟩ := hY.out
      refine bodyPost_ret (v := .tuple #[rnV om (.slice Aa og.length ca) (.slice Ab ox.length cb), .bool ok]) (by simp [results, Try.results21, go_sem, y0, y1, y2]) rfl ?_
      exact ⟨Aa, ca, Ab, cb, rfl, hO.out.more (lo' := w.heap.size) (by omega), ((hB3.out.setCell (by simp <;> omega) _).setCell (by simp <;> omega) _).setCell (by simp <;> omega) _⟩

end Go.Proofs.Ytccggcdjajehnaa
