/-
  Contract of the model's l11Final. No condition but lengths below 2^40.
-/
import Derived.Test.YtbnmeedmeikepaaGmW
import Derived.Deep.CutBlock
import Derived.Deep.RegionLaw
import Derived.Deep.RegionHeld3
import Derived.Deep.DrawnRows
namespace Go.Proofs.Ytbnmeedmeikepaa
open Go.RowKit
set_option linter.unusedVariables false
set_option linter.unusedSimpArgs false
attribute [local go_sem ↓] Go.wp_at_zero Go.wp_at_succ

/-! ### the answer, case by case -/
section
variable {id ck m : Int} {s : St} {P D : List En} {k : Nat} {x : En}

theorem fi_miss (p2 : plI P m = -1) : fiA ⟨id, ck, P, D⟩ m s = (⟨id, ck, P, D⟩, [], false) := by
  apply fiA_no; simp [fiOk, p2]

theorem fi_final (p1 : pla P m = k) (p4 : P[k]? = some x) (h : x.2.2 = true) : fiA ⟨id, ck, P, D⟩ m s = (⟨id, ck, P, D⟩, [], false) := by
  apply fiA_no; simp [fiOk, p1, atE_get p4, h]

theorem fi_less (p1 : pla P m = k) (p4 : P[k]? = some x) (h : ltS s x.2.1 = true) : fiA ⟨id, ck, P, D⟩ m s = (⟨id, ck, P, D⟩, [], false) := by
  apply fiA_no; simp [fiOk, p1, atE_get p4, h]

theorem fi_taken (h1 : cnt (rst P m) s < (rst P m).length) (h2 : keyE (rst P m) (cnt (rst P m) s) = s) : fiA ⟨id, ck, P, D⟩ m s = (⟨id, ck, P, D⟩, [], false) := by
  apply fiA_no; simp [fiOk, h1, h2]

theorem fi_yes (p1 : pla P m = k) (p2 : plI P m = k) (p4 : P[k]? = some x) (hf : x.2.2 = false) (hl : ltS s x.2.1 = false) (ht : ¬ (cnt (rst P m) s < (rst P m).length ∧ keyE (rst P m) (cnt (rst P m) s) = s)) :
    fiA ⟨id, ck, P, D⟩ m s = (⟨id, max ck s.1, lft (ins P m s), D ++ tld (ins P m s)⟩, msgs (tld (ins P m s)), true) := by
  apply fiA_yes
  simp only [fiOk, p1, p2, atE_get p4, hf, hl, Bool.not_false, Bool.and_true, Bool.and_eq_true, decide_eq_true_eq, Bool.not_eq_true', Bool.and_eq_false_iff, decide_eq_false_iff_not]
  refine ⟨by omega, ?_⟩
  by_cases h : cnt (rst P m) s < (rst P m).length
  · exact .inr (fun h2 => ht ⟨h, h2⟩)
  · exact .inl h
end

set_option maxRecDepth 100000 in
set_option maxHeartbeats 8000000 in
theorem l11Final_as {n1 c1 n2 c2 : Nat} {A1 A2 : Option Addr} {P D P' D' : List En} {T' : List Int} {id ck m st sg id' ck' : Int} {b' : Bool} (hR : fiA ⟨id, ck, P, D⟩ m (st, sg) = (⟨id', ck', P', D'⟩, T', b')) (w : World) (hr : RdG w A1 n1 c1 A2 n2 c2 P D) (hN : n1 + n2 + 1 < 1099511627776) :
    Calls Try.prog 40 #[gpV id ck (.slice A1 n1 c1) (.slice A2 n2 c2), .int .i64 m, two st sg] w (FiPost id' ck' b' P' D' T' w) := by
  have hB0 := hid (below3 w (.cells #[.int .i64 id, .int .i64 ck, .slice A1 n1 c1, .slice A2 n2 c2] 25) (.cells #[.int .i64 st, .int .i64 sg] 29) (.cells #[.int .i64 0, .int .i64 0, .slice none 0 0, .slice none 0 0] 25))
  have hX0 : Hid (Cs (((w.alloc (.cells #[.int .i64 id, .int .i64 ck, .slice A1 n1 c1, .slice A2 n2 c2] 25)).alloc (.cells #[.int .i64 st, .int .i64 sg] 29)).alloc (.cells #[.int .i64 0, .int .i64 0, .slice none 0 0, .slice none 0 0] 25)) w.heap.size 25 #[.int .i64 id, .int .i64 ck, .slice A1 n1 c1, .slice A2 n2 c2] ∧
      Cs (((w.alloc (.cells #[.int .i64 id, .int .i64 ck, .slice A1 n1 c1, .slice A2 n2 c2] 25)).alloc (.cells #[.int .i64 st, .int .i64 sg] 29)).alloc (.cells #[.int .i64 0, .int .i64 0, .slice none 0 0, .slice none 0 0] 25)) (w.heap.size + 1) 29 #[.int .i64 st, .int .i64 sg] ∧
      Cs (((w.alloc (.cells #[.int .i64 id, .int .i64 ck, .slice A1 n1 c1, .slice A2 n2 c2] 25)).alloc (.cells #[.int .i64 st, .int .i64 sg] 29)).alloc (.cells #[.int .i64 0, .int .i64 0, .slice none 0 0, .slice none 0 0] 25)) (w.heap.size + 1 + 1) 25 #[.int .i64 0, .int .i64 0, .slice none 0 0, .slice none 0 0]) := hid
    ⟨((Cs.new w _ _).alloc _).alloc _, (Cs.new' _ _ _ (by simp)).alloc _, Cs.new' _ _ _ (by simp)⟩
  have hr0 := hid (hr.below hB0.out)
  have hl1 := hid hr.rp.len
  have hl2 := hid hr.rd.len
  have hh1 := hr.h1
  have hh2 := hr.h2
  have hk1 := hr.k1
  have hm1 := hr.m1
  have hR' := hid hR
  have hrw := hid hr
  clear hR hr
  go_enter Try.func40, Try.ntmps40
  go_wp2_with fail
  refine (l11Copy_any id ck _ hr0.out).mono ?_
  rintro e w3 ⟨B1, d1, B2, d2, rfl, ho3, hb3⟩
  obtain ⟨W6, hW6⟩ : ∃ W6, (w3.alloc (.cells #[.int .i64 id, .int .i64 ck, .slice B1 P.length d1, .slice B2 D.length d2] 25)).alloc (.cells #[] 3) = W6 := ⟨_, rfl⟩
  have hb6 := below2 w3 (.cells #[.int .i64 id, .int .i64 ck, .slice B1 P.length d1, .slice B2 D.length d2] 25) (.cells #[] 3)
  have hE6 := hid ((Cs.new w3 25 #[.int .i64 id, .int .i64 ck, .slice B1 P.length d1, .slice B2 D.length d2]).alloc (.cells #[] 3))
  have hT6 : Hid (OwI ((w3.alloc (.cells #[.int .i64 id, .int .i64 ck, .slice B1 P.length d1, .slice B2 D.length d2] 25)).alloc (.cells #[] 3)) (w3.heap.size + 1) (.slice (some ⟨w3.heap.size + 1, 0, none⟩) 0 0) []) := hid (by
    have := OwI.empty_lit (B := w3.heap.size + 1) (w3.alloc (.cells #[.int .i64 id, .int .i64 ck, .slice B1 P.length d1, .slice B2 D.length d2] 25)) (by simp)
    rwa [World.size_alloc] at this)
  have hz66 : ((w3.alloc (.cells #[.int .i64 id, .int .i64 ck, .slice B1 P.length d1, .slice B2 D.length d2] 25)).alloc (.cells #[] 3)).heap.size = w3.heap.size + 1 + 1 := by simp
  rw [hW6] at hb6 hE6 hT6 hz66
  have hX6 : Hid (FiSt w W6 w3.heap.size #[.int .i64 id, .int .i64 ck, .slice A1 n1 c1, .slice A2 n2 c2] #[.int .i64 st, .int .i64 sg] #[.int .i64 id, .int .i64 ck, .slice B1 P.length d1, .slice B2 D.length d2]) := hid
    ⟨(hX0.out.1.step hb3).step hb6, (hX0.out.2.1.step hb3).step hb6, (hX0.out.2.2.step hb3).step hb6, hE6.out, (hB0.out.trans (hb3.mono (by simp; omega))).trans (hb6.mono (Nat.le_trans hB0.out.size hb3.size))⟩
  have hr6 := hid ((hr0.out.below hb3).below hb6)
  have hO6 := hid (show OwG W6 (w.heap.size + 1 + 1 + 1) B1 P.length d1 B2 D.length d2 P D from (ho3.below hb6).more (by simp))
  have hob : Hid (∀ b, ((Value.slice B1 P.length d1).ownBlock = some b ∨ (Value.slice B2 D.length d2).ownBlock = some b) → w.heap.size + 1 + 1 < b ∧ b < w3.heap.size) := hid (fun b h => by
    rcases h with h | h
    · have h1 := (ho3.op.lt b h).1
      simp at h1
      exact ⟨by omega, (ho3.op.lt b h).2⟩
    · have h1 := (ho3.od.lt b h).1
      simp at h1
      exact ⟨by omega, (ho3.od.lt b h).2⟩)
  have hz3 : w.heap.size + 1 + 1 < w3.heap.size := (hX0.out.2.2.step hb3).lt
  have hz6 : w3.heap.size + 1 < W6.heap.size := by omega
  have hW6' := hid hW6
  clear hb3 ho3 hX0 hr0 hb6 hW6 hB0 hE6 hz66
  go_upto_region 3 with (fail)
  rw [hW6'.out]
  obtain ⟨q0, q1, q2, q3⟩ := hX6.out.1.four
  -- how a refusal ends, from any later world
  have href : Hid (∀ W, Below W6.heap.size W6 W → FiPost id ck false P D [] w (.returned (.tuple #[gpV id ck (.slice B1 P.length d1) (.slice B2 D.length d2), .slice (some ⟨w3.heap.size + 1, 0, none⟩) 0 0, .bool false])) ((((W.setCell ⟨w.heap.size + 1 + 1, 0, none⟩ (.int .i64 id)).setCell ⟨w.heap.size + 1 + 1, 1, none⟩ (.int .i64 ck)).setCell ⟨w.heap.size + 1 + 1, 2, none⟩ (.slice B1 P.length d1)).setCell ⟨w.heap.size + 1 + 1, 3, none⟩ (.slice B2 D.length d2))) := hid (fun W hb => by
    have hX := hX6.out.step hb
    have hfk := (Kp.refl (fun b => b = w.heap.size + 1 + 1) W).set4 (b := w.heap.size + 1 + 1) rfl (.int .i64 id) (.int .i64 ck) (.slice B1 P.length d1) (.slice B2 D.length d2)
    refine ⟨B1, d1, B2, d2, _, 0, rfl, ((hO6.out.below hb).kp hfk (fun b hb h => by omega)).more (by omega), (hfk.ownI (own_of_block hT6.out (fun g hg => hb.block g (hT6.out.lt g hg).2)) (fun k hk h => ?_)).more (by omega), hX.2.2.2.2.trans (hfk.base hX.2.2.2.2.size (fun i h => by omega))⟩
    have hk2 : w3.heap.size + 1 = k := by injection hk
    omega)
  rcases pla_cases P m with ⟨k, x, p1, p2, p3, p4, p5, -⟩ | ⟨-, p2, p3⟩
  · obtain ⟨b, off, mx, tx, kx, fx, rfl, hx, hb, c0, c1', c2', c3⟩ := hr6.out.rp.at_ (show k < n1 by rw [← hl1.out]; exact p3)
    have ex : x = (mx, (tx, kx), fx) := by have := p4.symm.trans hx.out; injection this
    subst ex
    have hF := hid p2
    have k0 : (0 : Int) ≤ (k : Int) := by omega
    have k1 : (k : Int) < (n1 : Int) := by rw [← hl1.out]; omega
    have hkP : k < P.length := p3
    have kd : decide ((k : Int) < 0) = false := decide_eq_false (by omega)
    have C1 : ∀ x : BW W6, x.wd.cell? ⟨b, off + k * 4 + 1, none⟩ = some (.int .i64 tx) := fun x => x.cell c1'
    have C2 : ∀ x : BW W6, x.wd.cell? ⟨b, off + k * 4 + 2, none⟩ = some (.int .i64 kx) := fun x => x.cell c2'
    have C3 : ∀ x : BW W6, x.wd.cell? ⟨b, off + k * 4 + 3, none⟩ = some (.bool fx) := fun x => x.cell c3
    obtain ⟨x0, x1, x2, x3⟩ := hX6.out.1.fourX
    have S0 : ∀ x : BW W6, x.wd.cell? ⟨w.heap.size + 1, 0, none⟩ = some (.int .i64 st) := fun x => x.cell hX6.out.2.1.two.1
    have S1 : ∀ x : BW W6, x.wd.cell? ⟨w.heap.size + 1, 1, none⟩ = some (.int .i64 sg) := fun x => x.cell hX6.out.2.1.two.2.1
    clear c0 c1' c2' c3
    cases fx with
    | true =>
      obtain ⟨rfl, rfl, rfl, rfl, rfl, rfl⟩ : id = id' ∧ ck = ck' ∧ P = P' ∧ D = D' ∧ [] = T' ∧ false = b' := by
        have h7 := (fi_final (id := id) (ck := ck) (D := D) (s := (st, sg)) p1 p4 rfl).symm.trans hR'.out
        simp only [Prod.mk.injEq, Gp.mk.injEq] at h7
        exact ⟨h7.1.1, h7.1.2.1, h7.1.2.2.1, h7.1.2.2.2, h7.2.1, h7.2.2⟩
      clear p1 p2 p3 p4 p5 hx
      go_wp2_with fail
      refine (l11Find_as hF.out _ hr6.out.rp hh1).mono ?_
      rintro e w7 ⟨rfl, rfl⟩
      go_wp2_with fail
      refine wp_region_below (by kernel_rfl) (by kernel_rfl) ?_
      repeat (go_big_quiet_step (fail))
      refine wpQuiet_nil ?_
      intro w8 hb8
      have hX8 := hid (hX6.out.step hb8)
      have hend := hid (href.out w8 hb8)
      obtain ⟨e0, e1, e2, e3⟩ := hX8.out.2.2.2.1.four
      obtain ⟨r0, r1, r2, r3⟩ := hX8.out.2.2.1.four
      obtain ⟨v0, v1, v2, v3⟩ := hX8.out.2.2.1.free4
      clear hb8
      go_wp2_with (exact bodyPost_ret (v := .tuple #[gpV id ck (.slice B1 P.length d1) (.slice B2 D.length d2), .slice (some ⟨w3.heap.size + 1, 0, none⟩) 0 0, .bool false]) (by simp [results, Try.results40, go_sem, r0, r1, r2, r3]) rfl hend.out)
    | false =>
      cases hL : lexB st sg tx kx with
      | true =>
        obtain ⟨rfl, rfl, rfl, rfl, rfl, rfl⟩ : id = id' ∧ ck = ck' ∧ P = P' ∧ D = D' ∧ [] = T' ∧ false = b' := by
          have h7 := (fi_less (id := id) (ck := ck) (D := D) (s := (st, sg)) p1 p4 hL).symm.trans hR'.out
          simp only [Prod.mk.injEq, Gp.mk.injEq] at h7
          exact ⟨h7.1.1, h7.1.2.1, h7.1.2.2.1, h7.1.2.2.2, h7.2.1, h7.2.2⟩
        have hL := hid hL
        clear p1 p2 p3 p4 p5 hx
        go_wp2_with fail
        refine (l11Find_as hF.out _ hr6.out.rp hh1).mono ?_
        rintro e w7 ⟨rfl, rfl⟩
        go_wp2_with fail
        refine wp_region_below (by kernel_rfl) (by kernel_rfl) ?_
        repeat (go_big_quiet_step ((go_at_call 53; exact BW.call _ (l2Less_as hL.out _))))
        refine wpQuiet_nil ?_
        intro w8 hb8
        have hX8 := hid (hX6.out.step hb8)
        have hend := hid (href.out w8 hb8)
        obtain ⟨e0, e1, e2, e3⟩ := hX8.out.2.2.2.1.four
        obtain ⟨r0, r1, r2, r3⟩ := hX8.out.2.2.1.four
        obtain ⟨v0, v1, v2, v3⟩ := hX8.out.2.2.1.free4
        clear hb8
        go_wp2_with (exact bodyPost_ret (v := .tuple #[gpV id ck (.slice B1 P.length d1) (.slice B2 D.length d2), .slice (some ⟨w3.heap.size + 1, 0, none⟩) 0 0, .bool false]) (by simp [results, Try.results40, go_sem, r0, r1, r2, r3]) rfl hend.out)
      | false =>
        have hL' := hid (show ltS (st, sg) (tx, kx) = false from hL)
        have hL := hid hL
        have hp1 := hid p1
        have hp4 := hid p4
        clear p1 p2 p3 p4 p5 hx
        go_wp2_with fail
        refine (l11Find_as hF.out _ hr6.out.rp hh1).mono ?_
        rintro e w7 ⟨rfl, rfl⟩
        go_wp2_with fail
        refine wp_region_below (by kernel_rfl) (by kernel_rfl) ?_
        repeat (go_big_quiet_step ((go_at_call 53; exact BW.call _ (l2Less_as hL.out _))))
        refine wpQuiet_nil ?_
        intro w8 hb8
        have hX8 := hid (hX6.out.step hb8)
        have hB8 := hid hb8
        have hr8 := hid (hr6.out.below hb8)
        have hO8 := hid (hO6.out.below hb8)
        have hz8 := hb8.size
        clear hb8 C1 C2 C3 x0 x1 x2 x3 S0 S1 q0 q1 q2 q3
        have hrs : Hid (rst P m = P.take k ++ P.drop (k + 1)) := hid (by unfold rst; rw [hp1.out])
        obtain ⟨R, hRe⟩ : ∃ R, P.take k ++ P.drop (k + 1) = R := ⟨_, rfl⟩
        have hRl : Hid (R.length + 1 = n1) := hid (by rw [← hRe, List.length_append, List.length_take, List.length_drop]; have := hl1.out; omega)
        have hRh : R.length < 1099511627776 := by have := hRl.out; omega
        replace hRe := hid hRe
        have hrsR : Hid (rst P m = R) := hid (hrs.out.trans hRe.out)
        -- region 6: the rest without the message
        go_upto_region 6 with (fail)
        go_cut [12] (fun v wx => ∃ A c, v = .slice A R.length c ∧ Hid (OwE wx w8.heap.size (.slice A R.length c) R) ∧ Hid (Below w8.heap.size w8 wx))
        case first =>
          obtain ⟨A', hs6, hcut, -⟩ := cutE_lo (A := some ⟨b, off, none⟩) (n := n1) (c := c1) (l := k + 1) (x := (k : Int) + 1) (by omega) (by omega) hk1
          have hcut' := hid hcut
          clear hcut
          have q2 := hX8.out.1.four.2.2.1
          have q2a : (w8.alloc (.cells #[] 34)).drew.cell? ⟨w.heap.size, 2, none⟩ = some (.slice (some ⟨b, off, none⟩) n1 c1) := (hX8.out.step (below1 w8 _)).1.four.2.2.1
          have a1 : Hid (OwE ((w8.alloc (.cells #[] 34)).drew) w8.heap.size (.slice (some ⟨w8.heap.size, 0, none⟩) 0 0) []) := hid (ow_drew (OwE.lit0 w8 rfl))
          have a2 : Hid (RdE ((w8.alloc (.cells #[] 34)).drew) w8.heap.size (some ⟨b, off, none⟩) k (P.take k)) := hid (((hr8.out.rp.take (by omega)).alloc (Nat.le_refl _) _).drew)
          have a3 : Hid (w8.heap.size ≤ ((w8.alloc (.cells #[] 34)).drew).heap.size) := hid (below1 w8 _).size
          have a4 : Hid (([] : List En).length + k < 1099511627776) := hid (by simp; omega)
          have a5 : Hid ((P.take k).length + (n1 - (k + 1)) < 1099511627776) := hid (by rw [List.length_take]; omega)
          have a6 : Hid (Kp (fun b => w8.heap.size ≤ b) w8 ((w8.alloc (.cells #[] 34)).drew)) := hid ((Kp.refl _ w8).alloc _).drew
          have i2 : (k : Int) ≤ (c1 : Int) := by omega
          have i3 : IntKind.i64.wrap ((k : Int) + 1) = (k : Int) + 1 := IntWalk.i64_in _ (by omega)
          have i5 : (0 : Int) ≤ (k : Int) + 1 := by omega
          have i6 : (k : Int) + 1 ≤ (n1 : Int) := by omega
          have i7 : (n1 : Int) ≤ (c1 : Int) := by omega
          go_region_held3 (fun w' => w'.cell? ⟨w.heap.size, 2, none⟩ = some (.slice (some ⟨b, off, none⟩) n1 c1))
            (first | with_reducible exact q2 | with_reducible exact q2a | with_reducible exact q2b | with_reducible exact q2c | go_keep)
            (first | ((refine step_appE rfl und_en (.tmp 43) (.tmp 47) rfl (B := w8.heap.size) (Br := w8.heap.size) (v := .slice (some ⟨w8.heap.size, 0, none⟩) 0 0) (zs := []) (ys := P.take k) (A := some ⟨b, off, none⟩) (m := k) rfl rfl a1.out a2.out a3.out a4.out ?_); intro v9 w9 ho9 hg9 hv9; rw [List.nil_append] at ho9; have ho9' := hid ho9; have hk9 := hid (a6.out.grown hg9 (fun b hb => .inl (by injection hb with hb; exact Nat.le_of_eq hb))); have q2b := (hX8.out.kp hk9.out (fun b hb => ⟨by omega, by omega⟩)).1.four.2.2.1; have hr9 : Hid (RdE w9 w9.heap.size A' (n1 - (k + 1)) (P.drop (k + 1))) := hid (hcut'.out _ _ _ ((hr8.out.rp.below (hk9.out.base (Nat.le_refl _) (fun i h => h))).more hk9.out.size)); have a9 := hid hk9.out.size; clear ho9 hg9 hv9) | ((refine step_appE rfl und_en (.tmp 48) (.tmp 53) rfl (B := w8.heap.size) (Br := w9.heap.size) (v := v9) (zs := P.take k) (ys := P.drop (k + 1)) (A := A') (m := n1 - (k + 1)) rfl rfl ho9'.out hr9.out a9.out a5.out ?_); intro v10 w10 ho10 hg10 hv10; rw [hRe.out] at ho10; obtain ⟨A10, c10, rfl, -⟩ := ho10.form; have ho10' := hid ho10; have hk10 := hid (hk9.out.grown hg10 (fun b hb => .inl (ho9'.out.lt b hb).1)); have q2c := (hX8.out.kp hk10.out (fun b hb => ⟨by omega, by omega⟩)).1.four.2.2.1; clear ho10 hg10 hv10))
          all_goals
            go_wp2_with fail
            go_meet
            exact ⟨A10, c10, rfl, ho10', hid (hk10.out.base (Nat.le_refl _) (fun i h => h))⟩
        case rest =>
          obtain ⟨RA, Rc, rfl, hRo, hBc⟩ := hcut
          obtain ⟨W9, rfl⟩ : ∃ W9, W9 = wc := ⟨_, rfl⟩
          have hX9 := hid (hX8.out.step hBc.out)
          have hRr := hid (hRo.out.rd rfl)
          have hRc := (hRo.out.cap rfl)
          have hz9 := hBc.out.size
          have hO9 := hid (hO8.out.below hBc.out)
          have hT9 := hid (own_of_block hT6.out (fun g hg => (hB8.out.trans (hBc.out.mono hB8.out.size)).block g (hT6.out.lt g hg).2))
          have hB9 := hid (hB8.out.trans (hBc.out.mono hB8.out.size))
          clear hX8 hr8 hO8 hr6
          obtain ⟨J, hJ⟩ : ∃ J, cnt R (st, sg) = J := ⟨_, rfl⟩
          have hJl : J ≤ R.length := by rw [← hJ]; exact cnt_le R (st, sg)
          replace hJ := hid hJ
          -- the loop that counts the smaller stamps
          go_upto_block 0 with (fail)
          go_cut [13] (fun v wx => v = .int .i64 (J : Int) ∧ Hid (Below W9.heap.size W9 wx))
          case first =>
            go_wp2_with fail
            go_loopw [13] (fun v wr => ∃ j : Nat, j ≤ R.length ∧ v = .int .i64 j ∧ Hid (∀ i y, i < j → R[i]? = some y → ltS y.2.1 (st, sg) = true) ∧ Hid (Below W9.heap.size W9 wr)) (fun v _ => R.length - (intOf v).toNat)
            case atStart => exact ⟨0, Nat.zero_le _, rfl, hid (fun i y hi => by omega), hid (Below.refl _ _)⟩
            case round =>
              obtain ⟨j, hj, rfl, hlow, hBr⟩ := hrel
              have hXr := hid (hX9.out.step hBr.out)
              have S0 : ∀ x : BW wr, x.wd.cell? ⟨w.heap.size + 1, 0, none⟩ = some (.int .i64 st) := fun x => x.cell hXr.out.2.1.two.1
              have S1 : ∀ x : BW wr, x.wd.cell? ⟨w.heap.size + 1, 1, none⟩ = some (.int .i64 sg) := fun x => x.cell hXr.out.2.1.two.2.1
              have j0 : (0 : Int) ≤ (j : Int) := by omega
              by_cases hlt : j < R.length
              · obtain ⟨b2, off2, m2, t2, k2, f2, rfl, hx2, hb2, -, d1, d2, -⟩ := (hRr.out.below hBr.out).at_ hlt
                have E1 : ∀ x : BW wr, x.wd.cell? ⟨b2, off2 + j * 4 + 1, none⟩ = some (.int .i64 t2) := fun x => x.cell d1
                have E2 : ∀ x : BW wr, x.wd.cell? ⟨b2, off2 + j * 4 + 2, none⟩ = some (.int .i64 k2) := fun x => x.cell d2
                have j1 : (j : Int) < (R.length : Int) := by omega
                have kj : decide ((j : Int) < (R.length : Int)) = true := decide_eq_true j1
                clear d1 d2
                cases hL2 : lexB t2 k2 st sg with
                | true =>
                  have hlow2 : Hid (∀ i y, i < j + 1 → R[i]? = some y → ltS y.2.1 (st, sg) = true) := hid (fun i y hi hy => by
                    by_cases e : i = j
                    · subst e
                      have := hx2.out.symm.trans hy
                      injection this with this
                      rw [← this]; exact hL2
                    · exact hlow.out i y (by omega) hy)
                  have hL2 := hid hL2
                  go_wp2_with fail
                  refine wp_region_below (by kernel_rfl) (by kernel_rfl) ?_
                  repeat (go_big_quiet_step ((go_at_call 53; exact BW.call _ (l2Less_as hL2.out _))))
                  refine wpQuiet_nil ?_
                  intro w10 hb10
                  have hB10 := hid (hBr.out.trans (hb10.mono hBr.out.size))
                  clear hb10 S0 S1 E1 E2
                  go_wp2
                  go_roundw
                  case rel => exact ⟨j + 1, by omega, by go_num, hlow2, hB10⟩
                  case measure => simp [intOf]; omega
                | false =>
                  have hjJ : J = j := by
                    rw [← hJ.out]
                    exact cnt_is hj hlow.out (fun y hy => by
                      have := hx2.out.symm.trans hy
                      injection this with this
                      rw [← this]; exact hL2)
                  subst hjJ
                  have hL2 := hid hL2
                  go_wp2_with fail
                  refine wp_region_below (by kernel_rfl) (by kernel_rfl) ?_
                  repeat (go_big_quiet_step ((go_at_call 53; exact BW.call _ (l2Less_as hL2.out _))))
                  refine wpQuiet_nil ?_
                  intro w10 hb10
                  have hB10 := hid (hBr.out.trans (hb10.mono hBr.out.size))
                  clear hb10 S0 S1 E1 E2
                  go_wp2
                  go_meet
                  exact ⟨rfl, hB10⟩
              · have hjJ : J = j := by
                  rw [← hJ.out]
                  exact cnt_is hj hlow.out (fun y hy => by
                    have := (List.getElem?_eq_some_iff.1 hy).1
                    omega)
                subst hjJ
                have kj : decide ((J : Int) < (R.length : Int)) = false := decide_eq_false (by omega)
                go_wp2_with fail
                refine wp_region_below (by kernel_rfl) (by kernel_rfl) ?_
                repeat (go_big_quiet_step (fail))
                refine wpQuiet_nil ?_
                intro w10 hb10
                have hB10 := hid (hBr.out.trans (hb10.mono hBr.out.size))
                clear hb10 S0 S1
                go_wp2
                go_meet
                exact ⟨rfl, hB10⟩
          case rest =>
            obtain ⟨rfl, hBd⟩ := hcut
            obtain ⟨W10, rfl⟩ : ∃ W10, W10 = wc := ⟨_, rfl⟩
            have hX10 := hid (hX9.out.step hBd.out)
            have hRo10 := hid (hRo.out.below hBd.out)
            have hRr10 := hid (hRo10.out.rd rfl)
            have hO10 := hid (hO9.out.below hBd.out)
            have hT10 := hid (own_of_block hT9.out (fun g hg => hBd.out.block g (hT9.out.lt g hg).2))
            have hB10 := hid (hB9.out.trans (hBd.out.mono hB9.out.size))
            have hz10 := hBd.out.size
            clear hX9 hRo hRr hO9 hT9 hB9 hBd
            -- is the stamp taken?
            obtain ⟨tk, htk⟩ : ∃ tk : Bool, decide (J < R.length ∧ keyE R J = (st, sg)) = tk := ⟨_, rfl⟩
            replace htk := hid htk
            go_upto_region 10 with (fail)
            go_cut [82] (fun v wx => v = .bool tk ∧ Hid (Below W10.heap.size W10 wx))
            case first =>
              have S0 : ∀ x : BW W10, x.wd.cell? ⟨w.heap.size + 1, 0, none⟩ = some (.int .i64 st) := fun x => x.cell hX10.out.2.1.two.1
              have S1 : ∀ x : BW W10, x.wd.cell? ⟨w.heap.size + 1, 1, none⟩ = some (.int .i64 sg) := fun x => x.cell hX10.out.2.1.two.2.1
              have j0 : (0 : Int) ≤ (J : Int) := by omega
              by_cases hlt : J < R.length
              · obtain ⟨b2, off2, m2, t2, k2, f2, rfl, hx2, hb2, -, d1, d2, -⟩ := hRr10.out.at_ hlt
                have E1 : ∀ x : BW W10, x.wd.cell? ⟨b2, off2 + J * 4 + 1, none⟩ = some (.int .i64 t2) := fun x => x.cell d1
                have E2 : ∀ x : BW W10, x.wd.cell? ⟨b2, off2 + J * 4 + 2, none⟩ = some (.int .i64 k2) := fun x => x.cell d2
                have j1 : (J : Int) < (R.length : Int) := by omega
                have kj : decide ((J : Int) < (R.length : Int)) = true := decide_eq_true j1
                have htk2 : tk = (t2 == st && k2 == sg) := by
                  rw [← htk.out]
                  have e : keyE R J = (t2, k2) := by rw [keyE, atE_get hx2.out]
                  rw [e, Bool.eq_iff_iff]
                  simp [hlt]
                clear d1 d2
                by_cases h1 : t2 = st
                · subst h1
                  by_cases h2 : k2 = sg
                  · subst h2
                    obtain rfl : tk = true := by rw [htk2]; simp
                    clear htk2
                    go_wp2_with fail
                    refine wp_region_below (by kernel_rfl) (by kernel_rfl) ?_
                    repeat (go_big_quiet_step (fail))
                    refine wpQuiet_nil ?_
                    intro w11 hb11
                    have hB11 := hid hb11
                    clear hb11 S0 S1 E1 E2
                    go_wp2_with fail
                    go_meet
                    exact ⟨rfl, hB11⟩
                  · have hks : (k2 == sg) = false := by simp [h2]
                    obtain rfl : tk = false := by rw [htk2, hks]; simp
                    clear htk2
                    go_wp2_with fail
                    refine wp_region_below (by kernel_rfl) (by kernel_rfl) ?_
                    repeat (go_big_quiet_step (fail))
                    refine wpQuiet_nil ?_
                    intro w11 hb11
                    have hB11 := hid hb11
                    clear hb11 S0 S1 E1 E2
                    go_wp2_with fail
                    go_meet
                    exact ⟨rfl, hB11⟩
                · have hts : (t2 == st) = false := by simp [h1]
                  obtain rfl : tk = false := by rw [htk2, hts]; simp
                  clear htk2
                  go_wp2_with fail
                  refine wp_region_below (by kernel_rfl) (by kernel_rfl) ?_
                  repeat (go_big_quiet_step (fail))
                  refine wpQuiet_nil ?_
                  intro w11 hb11
                  have hB11 := hid hb11
                  clear hb11 S0 S1 E1 E2
                  go_wp2_with fail
                  go_meet
                  exact ⟨rfl, hB11⟩
              · have kj : decide ((J : Int) < (R.length : Int)) = false := decide_eq_false (by omega)
                have htk2 : tk = false := by rw [← htk.out]; exact decide_eq_false (fun h => hlt h.1)
                subst htk2
                go_wp2_with fail
                refine wp_region_below (by kernel_rfl) (by kernel_rfl) ?_
                repeat (go_big_quiet_step (fail))
                refine wpQuiet_nil ?_
                intro w11 hb11
                have hB11 := hid hb11
                clear hb11 S0 S1
                go_wp2_with fail
                go_meet
                exact ⟨rfl, hB11⟩
            case rest =>
              obtain ⟨rfl, hBe⟩ := hcut
              obtain ⟨W11, rfl⟩ : ∃ W11, W11 = wc := ⟨_, rfl⟩
              have hB11 := hid (hB10.out.trans (hBe.out.mono hB10.out.size))
              cases tk with
              | true =>
                obtain ⟨rfl, rfl, rfl, rfl, rfl, rfl⟩ : id = id' ∧ ck = ck' ∧ P = P' ∧ D = D' ∧ [] = T' ∧ false = b' := by
                  have h9 := of_decide_eq_true htk.out
                  rw [← hJ.out, ← hrsR.out] at h9
                  have h7 := (fi_taken (id := id) (ck := ck) (D := D) h9.1 h9.2).symm.trans hR'.out
                  simp only [Prod.mk.injEq, Gp.mk.injEq] at h7
                  exact ⟨h7.1.1, h7.1.2.1, h7.1.2.2.1, h7.1.2.2.2, h7.2.1, h7.2.2⟩
                have hb8 := hB11.out
                obtain ⟨w8', rfl⟩ : ∃ w8', w8' = W11 := ⟨_, rfl⟩
                have hX8 := hid (hX6.out.step hb8)
                have hend := hid (href.out w8' hb8)
                obtain ⟨e0, e1, e2, e3⟩ := hX8.out.2.2.2.1.four
                obtain ⟨r0, r1, r2, r3⟩ := hX8.out.2.2.1.four
                obtain ⟨v0, v1, v2, v3⟩ := hX8.out.2.2.1.free4
                clear hb8
                go_wp2_with (exact bodyPost_ret (v := .tuple #[gpV id ck (.slice B1 P.length d1) (.slice B2 D.length d2), .slice (some ⟨w3.heap.size + 1, 0, none⟩) 0 0, .bool false]) (by simp [results, Try.results40, go_sem, r0, r1, r2, r3]) rfl hend.out)
              | false =>
                obtain ⟨I, hI⟩ : ∃ I, ins P m (st, sg) = I := ⟨_, rfl⟩
                obtain ⟨rfl, hck2, rfl, rfl, rfl, rfl⟩ : id = id' ∧ max ck st = ck' ∧ lft I = P' ∧ D ++ tld I = D' ∧ msgs (tld I) = T' ∧ true = b' := by
                  have h9 := of_decide_eq_false htk.out
                  rw [← hJ.out, ← hrsR.out] at h9
                  have h7 := (fi_yes (id := id) (ck := ck) (D := D) hp1.out hF.out hp4.out rfl hL'.out h9).symm.trans hR'.out
                  rw [hI] at h7
                  simp only [Prod.mk.injEq, Gp.mk.injEq] at h7
                  exact ⟨h7.1.1, h7.1.2.1, h7.1.2.2.1, h7.1.2.2.2, h7.2.1, h7.2.2⟩
                have hins : Hid (R.take J ++ [(m, (st, sg), true)] ++ R.drop J = I) := hid (by
                  rw [← hI]
                  unfold ins
                  rw [hrsR.out, hJ.out])
                have hIl : Hid (I.length = n1) := hid (by rw [← hI, ins_len hp1.out hkP]; exact hl1.out)
                clear hI hp1 hp4 hF hL hL' htk
                have hX11 := hid (hX10.out.step hBe.out)
                have hRo11 := hid (hRo10.out.below hBe.out)
                have hD11 := hid (hO10.out.od.below hBe.out)
                have hT11 := hid (own_of_block hT10.out (fun g hg => hBe.out.block g (hT10.out.lt g hg).2))
                have hz11 := hBe.out.size
                clear hX10 hRo10 hRr10 hO10 hT10 hB10 hBe
                -- the clock
                go_upto_region 12 with (fail)
                go_cut [13] (fun v wx => v = .int .i64 (J : Int) ∧ wx = W11.setCell ⟨w3.heap.size, 1, none⟩ (.int .i64 ck'))
                case first =>
                  have q1 := hX11.out.1.four.2.1
                  have s0 := hX11.out.2.1.two.1
                  have f1 := hX11.out.2.2.2.1.frozen 1
                  have e1c := hX11.out.2.2.2.1.four.2.1
                  clear hBc hB8
                  replace hck2 := hid hck2
                  rcases Int.lt_trichotomy ck st with hc | hc | hc
                  · have e1 : Hid (ck' = st) := hid (by have := hck2.out; omega)
                    go_wp2_with fail
                    all_goals first | (go_meet; exact ⟨rfl, by rw [e1.out]⟩) | (exfalso; omega)
                  · subst hc
                    have e1 : Hid (ck' = ck) := hid (by have := hck2.out; omega)
                    go_wp2_with fail
                    all_goals first | (go_meet; exact ⟨rfl, by rw [e1.out]⟩) | (exfalso; omega)
                  · have e1 : Hid (ck' = ck) := hid (by have := hck2.out; omega)
                    go_wp2_with fail
                    all_goals first | (go_meet; exact ⟨rfl, by rw [e1.out]⟩) | (exfalso; omega)
                case rest =>
                  clear hck2
                  obtain ⟨rfl, hW12⟩ := hcut
                  have hX12 : Hid (FiSt w wc w3.heap.size #[.int .i64 id, .int .i64 ck, .slice (some ⟨b, off, none⟩) n1 c1, .slice A2 n2 c2] #[.int .i64 st, .int .i64 sg] #[.int .i64 id, .int .i64 ck', .slice B1 P.length d1, .slice B2 D.length d2]) := hid (by rw [hW12]; exact hX11.out.set hz3 1 _)
                  have hRo12 : Hid (OwE wc w8.heap.size (.slice RA R.length Rc) R) := hid (by rw [hW12]; exact hRo11.out.setFar (fun e => by have := (hRo11.out.lt _ e).1; simp at this; omega) _)
                  have hD12 : Hid (OwE wc (w.heap.size + 1 + 1 + 1) (.slice B2 D.length d2) D) := hid (by rw [hW12]; exact hD11.out.setFar (fun e => by have := (hob.out _ (.inr e)).2; simp at this) _)
                  have hT12 : Hid (OwI wc (w3.heap.size + 1) (.slice (some ⟨w3.heap.size + 1, 0, none⟩) 0 0) []) := hid (by rw [hW12]; exact own_of_block hT11.out (fun g hg => Below.heap_setCell _ _ _ _ (fun e => by have := (hT11.out.lt g hg).1; simp at e; omega)))
                  have hB12 : Hid (W11.heap.size = wc.heap.size) := hid (by rw [hW12]; simp [World.setCell])
                  clear hW12 hX11 hRo11 hD11 hT11
                  obtain ⟨W12, rfl⟩ : ∃ W12, W12 = wc := ⟨_, rfl⟩
                  have hz12 : w8.heap.size ≤ W12.heap.size := by have := hB12.out; omega
                  have hz12' : w3.heap.size + 1 < W12.heap.size := by omega
                  -- the pending entries anew
                  go_upto_region 13 with (fail)
                  go_cut [13] (fun v wx => v = .int .i64 (J : Int) ∧ ∃ pb pcap, Hid (FL w wx w3.heap.size #[.int .i64 id, .int .i64 ck, .slice (some ⟨b, off, none⟩) n1 c1, .slice A2 n2 c2] #[.int .i64 st, .int .i64 sg] id ck' I D pb pcap 0 0 0 (some ⟨pb, 0, none⟩) B2 d2 (some ⟨w3.heap.size + 1, 0, none⟩) 0))
                  case first =>
                    obtain ⟨A', hs13, hcut, -⟩ := cutE_lo (A := RA) (n := R.length) (c := Rc) (l := J) (x := (J : Int)) rfl hJl hRc.1
                    have hcut' := hid hcut
                    clear hcut
                    have hRr12 := hid (hRo12.out.rd rfl)
                    have q0 := And.intro hX12.out.2.1.two.1 hX12.out.2.1.two.2.1
                    have v1 : Below W12.heap.size W12 ((W12.alloc (.cells #[] 34)).drew) := (below1 W12 _).drew
                    have v0 : Below W12.heap.size W12 ((W12.alloc (.cells #[.int .i64 m, .int .i64 st, .int .i64 sg, .bool true] 34)).drew) := (below1 W12 _).drew
                    have v2 : Below W12.heap.size W12 (((W12.alloc (.cells #[] 34)).alloc (.cells #[.int .i64 m, .int .i64 st, .int .i64 sg, .bool true] 34)).drew) := (below2 W12 _ _).drew
                    have v3 : Below W12.heap.size W12 (((W12.alloc (.cells #[.int .i64 m, .int .i64 st, .int .i64 sg, .bool true] 34)).alloc (.cells #[] 34)).drew) := (below2 W12 _ _).drew
                    have qv1 := And.intro (hX12.out.step v1).2.1.two.1 (hX12.out.step v1).2.1.two.2.1
                    have qv0 := And.intro (hX12.out.step v0).2.1.two.1 (hX12.out.step v0).2.1.two.2.1
                    have qv2 := And.intro (hX12.out.step v2).2.1.two.1 (hX12.out.step v2).2.1.two.2.1
                    have qv3 := And.intro (hX12.out.step v3).2.1.two.1 (hX12.out.step v3).2.1.two.2.1
                    have r1 : Hid (RdE ((W12.alloc (.cells #[] 34)).drew) W12.heap.size RA J (R.take J)) := hid ((hRr12.out.take hJl).below v1)
                    have r2 : Hid (RdE (((W12.alloc (.cells #[] 34)).alloc (.cells #[.int .i64 m, .int .i64 st, .int .i64 sg, .bool true] 34)).drew) W12.heap.size RA J (R.take J)) := hid ((hRr12.out.take hJl).below v2)
                    have r3 : Hid (RdE (((W12.alloc (.cells #[.int .i64 m, .int .i64 st, .int .i64 sg, .bool true] 34)).alloc (.cells #[] 34)).drew) W12.heap.size RA J (R.take J)) := hid ((hRr12.out.take hJl).below v3)
                    have o1 : Hid (OwE ((W12.alloc (.cells #[] 34)).drew) W12.heap.size (.slice (some ⟨W12.heap.size, 0, none⟩) 0 0) []) := hid (ow_drew (OwE.lit0 W12 rfl))
                    have o2 : Hid (OwE (((W12.alloc (.cells #[] 34)).alloc (.cells #[.int .i64 m, .int .i64 st, .int .i64 sg, .bool true] 34)).drew) W12.heap.size (.slice (some ⟨W12.heap.size, 0, none⟩) 0 0) []) := hid (ow_drew ((OwE.lit0 W12 rfl).alloc _))
                    have o3 : Hid (OwE (((W12.alloc (.cells #[.int .i64 m, .int .i64 st, .int .i64 sg, .bool true] 34)).alloc (.cells #[] 34)).drew) W12.heap.size (.slice (some ⟨W12.heap.size + 1, 0, none⟩) 0 0) []) := hid (ow_drew ((OwE.lit0 (b := W12.heap.size + 1) (W12.alloc (.cells #[.int .i64 m, .int .i64 st, .int .i64 sg, .bool true] 34)) (by simp)).more (Nat.le_succ _)))
                    have z1 : Hid (W12.heap.size ≤ ((W12.alloc (.cells #[] 34)).drew).heap.size) := hid v1.size
                    have z2 : Hid (W12.heap.size ≤ (((W12.alloc (.cells #[] 34)).alloc (.cells #[.int .i64 m, .int .i64 st, .int .i64 sg, .bool true] 34)).drew).heap.size) := hid v2.size
                    have z3 : Hid (W12.heap.size ≤ (((W12.alloc (.cells #[.int .i64 m, .int .i64 st, .int .i64 sg, .bool true] 34)).alloc (.cells #[] 34)).drew).heap.size) := hid v3.size
                    have k1 : Hid (Kp (fun b => W12.heap.size ≤ b) W12 ((W12.alloc (.cells #[] 34)).drew)) := hid (Kp.of_below v1)
                    have k2 : Hid (Kp (fun b => W12.heap.size ≤ b) W12 (((W12.alloc (.cells #[] 34)).alloc (.cells #[.int .i64 m, .int .i64 st, .int .i64 sg, .bool true] 34)).drew)) := hid (Kp.of_below v2)
                    have k3 : Hid (Kp (fun b => W12.heap.size ≤ b) W12 (((W12.alloc (.cells #[.int .i64 m, .int .i64 st, .int .i64 sg, .bool true] 34)).alloc (.cells #[] 34)).drew)) := hid (Kp.of_below v3)
                    have l2 : Hid (Cs (((W12.alloc (.cells #[] 34)).alloc (.cells #[.int .i64 m, .int .i64 st, .int .i64 sg, .bool true] 34)).drew) (W12.heap.size + 1) 34 #[.int .i64 m, .int .i64 st, .int .i64 sg, .bool true]) := hid (Cs.new' _ _ _ (by simp))
                    have l3 : Hid (Cs (((W12.alloc (.cells #[.int .i64 m, .int .i64 st, .int .i64 sg, .bool true] 34)).alloc (.cells #[] 34)).drew) W12.heap.size 34 #[.int .i64 m, .int .i64 st, .int .i64 sg, .bool true]) := hid ((Cs.new _ _ _).alloc _)
                    have a4 : Hid (([] : List En).length + J < 1099511627776) := hid (by simp; omega)
                    have a5 : Hid ((R.take J).length + 1 < 1099511627776) := hid (by rw [List.length_take]; have := hRl.out; omega)
                    have a6 : Hid ((R.take J ++ [(m, (st, sg), true)]).length + (R.length - J) < 1099511627776) := hid (by rw [List.length_append, List.length_take]; have := hRl.out; simp; omega)
                    have j1 : (J : Int) ≤ (Rc : Int) := by have := hRc.1; omega
                    have j0 : (0 : Int) ≤ (J : Int) := by omega
                    have j2 : (J : Int) ≤ (R.length : Int) := by omega
                    have f2 := hX12.out.2.2.2.1.frozen 2
                    clear v0 v1 v2 v3
                    go_region_held3 (fun w' => w'.cell? ⟨w.heap.size + 1, 0, none⟩ = some (.int .i64 st) ∧ w'.cell? ⟨w.heap.size + 1, 1, none⟩ = some (.int .i64 sg))
                      (first | with_reducible exact q0 | with_reducible exact qv1 | with_reducible exact qv2 | with_reducible exact qv3 | with_reducible exact qv0 | with_reducible exact q13 | with_reducible exact q13a | with_reducible exact q14 | with_reducible exact q15 | with_reducible exact q16 | go_keep)
                      (first | ((first | refine step_appE rfl und_en (.tmp 91) (.tmp 94) rfl (B := W12.heap.size) (Br := W12.heap.size) (v := .slice (some ⟨W12.heap.size, 0, none⟩) 0 0) (zs := []) (ys := R.take J) (A := RA) (m := J) rfl rfl ?_ ?_ ?_ a4.out ?_ | refine step_appE rfl und_en (.tmp 91) (.tmp 94) rfl (B := W12.heap.size) (Br := W12.heap.size) (v := .slice (some ⟨W12.heap.size + 1, 0, none⟩) 0 0) (zs := []) (ys := R.take J) (A := RA) (m := J) rfl rfl ?_ ?_ ?_ a4.out ?_); (first | with_reducible exact o1.out | with_reducible exact o2.out | with_reducible exact o3.out); (first | with_reducible exact r1.out | with_reducible exact r2.out | with_reducible exact r3.out); (first | with_reducible exact z1.out | with_reducible exact z2.out | with_reducible exact z3.out); intro v13 w13 ho13 hg13 hv13; rw [List.nil_append] at ho13; have ho13' := hid ho13; have hk13 : Hid (Kp (fun b => W12.heap.size ≤ b) W12 w13) := hid (by (refine Kp.grown ?_ hg13 (fun b hb => .inl (by injection hb with hb; (first | exact Nat.le_of_eq hb | exact Nat.le_of_succ_le (Nat.le_of_eq hb))))); (first | with_reducible exact k1.out | with_reducible exact k2.out | with_reducible exact k3.out)); (first | (have hl13 : Hid (Cs w13 (W12.heap.size + 1) 34 #[.int .i64 m, .int .i64 st, .int .i64 sg, .bool true]) := by ((refine hid ?_); (with_reducible refine grown_cs l2.out hg13 ?_); (intro h; injection h with h; simp at h))) | (have hl13 : Hid (Cs w13 W12.heap.size 34 #[.int .i64 m, .int .i64 st, .int .i64 sg, .bool true]) := by ((refine hid ?_); (with_reducible refine grown_cs l3.out hg13 ?_); (intro h; injection h with h; simp at h))) | skip); have hX13 := hX12.out.kp hk13.out (fun b hb => ⟨by omega, by omega⟩); have q13 := And.intro hX13.2.1.two.1 hX13.2.1.two.2.1; have q13a := And.intro ((hX13.step (below1 w13 (.cells #[.int .i64 m, .int .i64 st, .int .i64 sg, .bool true] 34))).2.1.two.1) ((hX13.step (below1 w13 (.cells #[.int .i64 m, .int .i64 st, .int .i64 sg, .bool true] 34))).2.1.two.2.1); have hz13 := hk13.out.size; clear ho13 hg13 hv13 hX13) | ((refine step_appE rfl und_en (.tmp 95) (.tmp 99) rfl (B := W12.heap.size) (Br := w13.heap.size + 1) (v := v13) (zs := R.take J) (ys := [(m, (st, sg), true)]) (m := 1) rfl rfl ?_ ?_ ?_ a5.out ?_); (first | with_reducible exact ho13'.out | with_reducible exact ho13'.out.alloc _); (first | with_reducible exact (RdE.of_cs hl13.out).more (Nat.le_succ _) | with_reducible exact RdE.lit1 w13 m st sg true); (first | with_reducible exact hz13 | (simp; omega)); intro v14 w14 ho14 hg14 hv14; have ho14' := hid ho14; have hk14 : Hid (Kp (fun b => W12.heap.size ≤ b) W12 w14) := hid (by (refine Kp.grown ?_ hg14 (fun b hb => .inl (ho13'.out.lt b hb).1)); (first | with_reducible exact hk13.out | with_reducible exact hk13.out.alloc _)); have hX14 := hX12.out.kp hk14.out (fun b hb => ⟨by omega, by omega⟩); have q14 := And.intro hX14.2.1.two.1 hX14.2.1.two.2.1; have hz14 := hid hk14.out.size; have hr14 : Hid (RdE w14 w14.heap.size A' (R.length - J) (R.drop J)) := hid (hcut'.out _ _ _ ((hRr12.out.below (hk14.out.base (Nat.le_refl _) (fun i h => h))).more hk14.out.size)); clear ho14 hg14 hv14 hX14) | ((refine step_appE rfl und_en (.tmp 100) (.tmp 103) rfl (B := W12.heap.size) (Br := w14.heap.size) (v := v14) (zs := R.take J ++ [(m, (st, sg), true)]) (ys := R.drop J) (A := A') (m := R.length - J) rfl rfl ho14'.out hr14.out hz14.out a6.out ?_); intro v15 w15 ho15 hg15 hv15; rw [hins.out] at ho15; obtain ⟨A15, pcap, e15, -, hcp⟩ := ho15.form; subst e15; have hcp' := hid hcp; clear hcp; obtain ⟨pb, e15, hpb⟩ := ho15.block_ (by have := hIl.out; omega); subst e15; have hpb' := hid hpb; clear hpb; have ho15' := hid ho15; have hk15 : Hid (Kp (fun b => W12.heap.size ≤ b) W12 w15) := hid (Kp.grown hk14.out hg15 (fun b hb => .inl (ho14'.out.lt b hb).1)); have hX15 := hid (hX12.out.kp hk15.out (fun b hb => ⟨by omega, by omega⟩)); have q15 := And.intro hX15.out.2.1.two.1 hX15.out.2.1.two.2.1; have q16 := And.intro (hX15.out.set hz3 2 (.slice (some ⟨pb, 0, none⟩) I.length pcap)).2.1.two.1 (hX15.out.set hz3 2 (.slice (some ⟨pb, 0, none⟩) I.length pcap)).2.1.two.2.1; have f15 := hX15.out.2.2.2.1.frozen 2; have e15 := hX15.out.2.2.2.1.four.2.2.1; clear ho15 hg15 hv15))
                    all_goals
                      go_wp2_with fail
                      go_meet
                      have hne := hpb'.out
                      refine ⟨rfl, pb, pcap, hid ⟨?_, ?_, fun _ => rfl, ?_, ?_, Nat.zero_le _, by omega, fun b hb => ?_, fun b hb => ?_⟩⟩
                      · exact hX15.out.set hz3 2 _
                      · exact (ho15'.out.more (by omega)).setFar (fun e => by injection e with e; simp at e; omega) _
                      · rw [List.take_zero, List.append_nil, Nat.add_zero]
                        exact (hk15.out.own hD12.out (fun b hb h => by have := (hD12.out.lt b hb).2; omega)).setFar (fun e => by have := (hob.out _ (.inr e)).2; simp at this) _
                      · exact own_of_block (hk15.out.ownI (hT12.out.more (by omega)) (fun b hb h => by have := (hT12.out.lt b hb).2; omega)) (fun g hg => Below.heap_setCell _ _ _ _ (fun e => by have := (hT12.out.lt g hg).1; simp at e; omega))
                      · have h1 := hT12.out.lt b hb
                        omega
                      · rw [Nat.add_zero] at hb
                        have h1 := hob.out b (.inr hb)
                        refine ⟨by omega, by omega, fun h2 => ?_⟩
                        have := (hT12.out.lt b h2).1
                        omega
                  case rest =>
                    obtain ⟨rfl, pb, pcap, hF0⟩ := hcut
                    obtain ⟨W13, rfl⟩ : ∃ W13, W13 = wc := ⟨_, rfl⟩
                    clear hX12 hRo12 hD12 hT12
                    -- the loop that delivers
                    go_upto_block 2 with (fail)
                    go_cut [10] (fun v wx => ∃ (j : Nat) (pA dA : Option Addr) (dc : Nat) (tA : Option Addr) (tc : Nat), v = .slice tA j tc ∧ Hid (∀ e ∈ I.take j, e.2.2 = true) ∧ Hid (blkB (I.drop j) = true) ∧ Hid (FL w wx w3.heap.size #[.int .i64 id, .int .i64 ck, .slice (some ⟨b, off, none⟩) n1 c1, .slice A2 n2 c2] #[.int .i64 st, .int .i64 sg] id ck' I D pb pcap j j j pA dA dc tA tc))
                    case first =>
                      go_wp2_with fail
                      go_loopw [10] (fun v wr => ∃ (j : Nat) (pA dA : Option Addr) (dc : Nat) (tA : Option Addr) (tc : Nat), v = .slice tA j tc ∧ Hid (∀ e ∈ I.take j, e.2.2 = true) ∧ Hid (FL w wr w3.heap.size #[.int .i64 id, .int .i64 ck, .slice (some ⟨b, off, none⟩) n1 c1, .slice A2 n2 c2] #[.int .i64 st, .int .i64 sg] id ck' I D pb pcap j j j pA dA dc tA tc)) (fun v _ => I.length - slLen v)
                      case atStart => exact ⟨0, _, _, _, _, _, rfl, hid (fun e he => by rw [List.take_zero] at he; cases he), hF0⟩
                      case round =>
                        obtain ⟨j, pA, dA, dc, tA, tc, rfl, hfin, hF⟩ := hrel
                        have hjl := hF.out.jl
                        have e2 := hF.out.st.2.2.2.1.four.2.2.1
                        have hj0 : (0 : Int) ≤ (j : Int) := by omega
                        by_cases hlt : j < I.length
                        · have hpa : pA = some ⟨pb, j * 4, none⟩ := by have := hF.out.pa hlt; rwa [Nat.zero_add] at this
                          subst hpa
                          obtain ⟨b2, off2, mx, tx2, kx2, fx2, eA, hx2, hb2, c0, c1', c2', c3⟩ := (hF.out.po.rd rfl).at_ hlt
                          injection eA with eA
                          injection eA with eA1 eA2
                          subst eA1; subst eA2
                          rw [Nat.zero_add] at c0 c1' c2' c3
                          have hlen : (0 : Int) < ((I.length - j : Nat) : Int) := by omega
                          have hlenN : 0 < I.length - j := by omega
                          cases fx2 with
                          | false =>
                            have hblk : Hid (blkB (I.drop j) = true) := hid (by rw [drop_consE hx2.out]; rfl)
                            go_wp2_with fail
                            go_meet
                            exact ⟨j, _, _, _, _, _, rfl, hfin, hblk, hF⟩
                          | true =>
                            have hfin2 := hid (take_more hx2.out rfl hfin.out)
                            have htk : Hid (msgs (I.take j) ++ [mx] = msgs (I.take (j + 1)) ∧ (msgs (I.take j)).length = j ∧ (msgs (I.take (j + 1))).length = j + 1) := hid (by
                              refine ⟨by rw [take_snocE hx2.out]; simp [msgs], ?_, ?_⟩
                              · rw [msgs_len, List.length_take]; omega
                              · rw [msgs_len, List.length_take]; omega)
                            have htd := hid ((own_of_block hF.out.td (fun g hg => (below1 wr (.cells #[.int .i64 mx] 3)).block g (hF.out.td.lt g hg).2)))
                            have hkt := hid ((Kp.refl (fun b => (Value.slice tA j tc).ownBlock = some b) wr).alloc (.cells #[.int .i64 mx] 3))
                            have htz : Hid (w.heap.size + 1 + 1 + 1 ≤ (wr.alloc (.cells #[.int .i64 mx] 3)).heap.size) := hid (by have := hF.out.st.2.2.2.1.lt; simp; omega)
                            have htn : Hid ((msgs (I.take j)).length + 1 < 1099511627776) := hid (by rw [htk.out.2.1]; have := hIl.out; omega)
                            have hlit := hid (RdI.lit1 wr mx)
                            -- told
                            go_upto_region 16 with (at_builtin; (refine wpList_appI2 rfl (.tmp 117) (.tmp 123) rfl (B := w.heap.size + 1 + 1 + 1) (Br := wr.heap.size + 1) (v := .slice tA j tc) (zs := msgs (I.take j)) (ys := [mx]) rfl rfl htd.out hlit.out htz.out htn.out (by omega) ?_); intro v1 w1 ho1 hg1 hv1; rw [htk.out.1] at ho1; obtain ⟨tA1, tc1, e1, -⟩ := ho1.form; rw [htk.out.2.2] at e1; subst e1; have ho1' := hid ho1; have hg1' := hid hg1; have hv1' := hid hv1; clear ho1 hg1 hv1)
                            have hF1 := hid (hF.out.told (tA' := tA1) (tc' := tc1) (hkt.out.grown hg1'.out (fun b hb => .inr hb)) (by have := ho1'.out; rwa [OwI, htk.out.2.2] at this) (by
                              rcases hv1'.out with h | h
                              · exact .inl h
                              · exact .inr ⟨_, by simp, h⟩))
                            obtain ⟨e0, e1, e2', e3⟩ := hF1.out.st.2.2.2.1.four
                            have f3 := hF1.out.st.2.2.2.1.frozen 3
                            have f2 := hF1.out.st.2.2.2.1.frozen 2
                            clear e2 c0 c1' c2' c3 hF
                            obtain ⟨b3, off3, mx3, tx3, kx3, fx3, eA, hx3, hb3, c0, c1', c2', c3⟩ := (hF1.out.po.rd rfl).at_ hlt
                            injection eA with eA
                            injection eA with eA1 eA2
                            subst eA1; subst eA2
                            obtain ⟨rfl, rfl, rfl, rfl⟩ : mx = mx3 ∧ tx2 = tx3 ∧ kx2 = kx3 ∧ true = fx3 := by
                              have := hx2.out.symm.trans hx3.out
                              simp only [Option.some.injEq, Prod.mk.injEq] at this
                              exact ⟨this.1, this.2.1.1, this.2.1.2, this.2.2⟩
                            rw [Nat.zero_add] at c0 c1' c2' c3
                            have g1 : Below w1.heap.size w1 ((w1.alloc (.cells #[.int .i64 mx, .int .i64 tx2, .int .i64 kx2, .bool true] 34)).drew) := (below1 w1 _).drew
                            go_cut [10] (fun v wx => v = .slice tA1 (j + 1) tc1 ∧ ∃ (dA2 : Option Addr) (dc2 : Nat), Hid (FL w wx w3.heap.size #[.int .i64 id, .int .i64 ck, .slice (some ⟨b, off, none⟩) n1 c1, .slice A2 n2 c2] #[.int .i64 st, .int .i64 sg] id ck' I D pb pcap j (j + 1) (j + 1) (some ⟨pb, j * 4, none⟩) dA2 dc2 tA1 tc1))
                            case first =>
                              have hF1a := hid (hF1.out.below g1)
                              have p2 := hF1a.out.st.2.2.2.1.four
                              have p21 := p2.2.2.1
                              have p22 := p2.2.2.2
                              have p24 := (g1.cell (p := ⟨pb, j * 4, none⟩) hb3).trans c0
                              have p25 := (g1.cell (p := ⟨pb, j * 4 + 1, none⟩) hb3).trans c1'
                              have p26 := (g1.cell (p := ⟨pb, j * 4 + 2, none⟩) hb3).trans c2'
                              have p27 := (g1.cell (p := ⟨pb, j * 4 + 3, none⟩) hb3).trans c3
                              have hdk := hid (((Kp.refl (fun b => (Value.slice dA (D.length + j) dc).ownBlock = some b) w1).alloc (.cells #[.int .i64 mx, .int .i64 tx2, .int .i64 kx2, .bool true] 34)).drew)
                              have hdz : Hid (w.heap.size + 1 + 1 + 1 ≤ ((w1.alloc (.cells #[.int .i64 mx, .int .i64 tx2, .int .i64 kx2, .bool true] 34)).drew).heap.size) := hid (by have := hF1a.out.st.2.2.2.1.lt; omega)
                              have hdl : Hid ((D ++ I.take j).length = D.length + j) := hid (by rw [List.length_append, List.length_take]; omega)
                              have hdn : Hid ((D ++ I.take j).length + 1 < 1099511627776) := hid (by rw [hdl.out, hl2.out]; have := hIl.out; omega)
                              have hdo : Hid (OwE ((w1.alloc (.cells #[.int .i64 mx, .int .i64 tx2, .int .i64 kx2, .bool true] 34)).drew) (w.heap.size + 1 + 1 + 1) (.slice dA (D.length + j) dc) (D ++ I.take j)) := hid hF1a.out.dn
                              have hlt2 := hid ((RdE.lit1 w1 mx tx2 kx2 true).drew)
                              have htk2 : Hid (D ++ I.take j ++ [(mx, (tx2, kx2), true)] = D ++ I.take (j + 1)) := hid (by rw [List.append_assoc, take_snocE hx2.out])
                              have htk3 : Hid ((D ++ I.take (j + 1)).length = D.length + (j + 1)) := hid (by rw [List.length_append, List.length_take]; omega)
                              clear p2 g1
                              go_region_law ((refine step_appE rfl und_en (.tmp 126) (.tmp 131) rfl (B := w.heap.size + 1 + 1 + 1) (Br := w1.heap.size + 1) (v := .slice dA (D.length + j) dc) (zs := D ++ I.take j) (ys := [(mx, (tx2, kx2), true)]) (m := 1) rfl rfl hdo.out hlt2.out hdz.out hdn.out ?_); intro v2 w2 ho2 hg2 hv2; rw [htk2.out] at ho2; obtain ⟨dA2, dc2, e2x, -⟩ := ho2.form; rw [htk3.out] at e2x; subst e2x; have ho2' := hid ho2; have hk2 := hid (hdk.out.grown hg2 (fun b hb => .inr hb)); have hv2' := hid hv2; have hS2 := hF1.out.st.kp hk2.out (fun b hb => ⟨(hF1.out.dn.lt b hb).1, (hF1.out.n3 b hb).1⟩); have f32 := hS2.2.2.2.1.frozen 3; have e32 := hS2.2.2.2.1.four.2.2.2; clear ho2 hg2 hv2 hS2)
                              all_goals
                                go_wp2_with fail
                                go_meet
                                refine ⟨rfl, dA2, dc2, hid (hF1.out.done hz3 hk2.out ho2'.out ?_)⟩
                                rcases hv2'.out with h | h
                                · exact .inl h
                                · exact .inr ⟨_, by simp [World.drew], h⟩
                            case rest =>
                              obtain ⟨rfl, dA2, dc2, hF2⟩ := hcut
                              clear hF1 e0 e1 e2' e3 f3 f2 c0 c1' c2' c3 hx3 hb3 g1
                              obtain ⟨A17, hs17, -, hA17⟩ := cutE_lo (A := some ⟨pb, j * 4, none⟩) (n := I.length - j) (c := pcap - j) (l := 1) (x := 1) rfl (by omega) (by have := (hF2.out.po.cap rfl).1; omega)
                              have hA17' := hid hA17
                              clear hA17
                              obtain ⟨-, -, e2', e3⟩ := hF2.out.st.2.2.2.1.four
                              have f2 := hF2.out.st.2.2.2.1.frozen 2
                              have hF3 := hid (hF2.out.pend hz3 (pA' := A17) (n := I.length - j - 1) (c := pcap - j - 1) hlt (fun h => by rw [hA17'.out pb (j * 4) rfl (by omega)]; congr 2; omega) (by omega) (by omega))
                              clear hF2
                              go_wp2_with fail
                              go_roundw
                              case rel => exact ⟨j + 1, A17, dA2, dc2, tA1, tc1, by rfl, hfin2, hF3⟩
                              case measure => simp [slLen]; omega
                        · have hblk : Hid (blkB (I.drop j) = true) := hid (by rw [List.drop_of_length_le (by omega)]; rfl)
                          have hlen0 : I.length - j = 0 := by omega
                          rw [hlen0] at e2
                          go_wp2_with fail
                          go_meet
                          exact ⟨j, _, _, _, _, _, rfl, hfin, hblk, hF⟩
                    case rest =>
                      obtain ⟨j, pA, dA, dc, tA, tc, rfl, hfin, hblk, hF⟩ := hcut
                      obtain ⟨W14, rfl⟩ : ∃ W14, W14 = wc := ⟨_, rfl⟩
                      clear hF0
                      have htld := hid (tld_at hfin.out hblk.out)
                      obtain ⟨nP, hnP⟩ : ∃ nP, (I.drop j).length = nP := ⟨_, rfl⟩
                      obtain ⟨nD, hnD⟩ : ∃ nD, (D ++ I.take j).length = nD := ⟨_, rfl⟩
                      have hpl := hid hnP
                      have hdl := hid hnD
                      have hdl0 : Hid ((D ++ I.take j).length = D.length + j) := hid (by rw [List.length_append, List.length_take]; have := hF.out.jl; omega)
                      have htl : Hid ((msgs (I.take j)).length = j) := hid (by rw [msgs_len, List.length_take]; have := hF.out.jl; omega)
                      have hrG : Hid (RdG W14 pA (I.length - j) (pcap - j) dA (D.length + j) dc (I.drop j) (D ++ I.take j)) := hid (by
                        have h1 := hF.out.po.cap rfl
                        have h2 := hF.out.dn.cap hdl0.out
                        have h3 := hIl.out
                        have h4 := hl2.out
                        have h5 := hF.out.jl
                        exact ⟨hF.out.rp, hF.out.dn.rd hdl0.out, by omega, by omega, by omega, h2.1, by omega, h2.2⟩)
                      obtain ⟨e0, e1, e2, e3⟩ := hF.out.st.2.2.2.1.four
                      go_wp2_with fail
                      refine (l11Copy_any id ck' _ hrG.out).mono ?_
                      rintro e w15 ⟨E1, g1, E2, g2, rfl, ho15, hb15⟩
                      rw [hnP, hnD]
                      clear hnP hnD
                      have hF15 := hid (hF.out.below hb15)
                      have hO15 := hid ho15
                      have hz15 : w3.heap.size < W14.heap.size := hF.out.st.2.2.2.1.lt
                      obtain ⟨r0, r1, r2, r3⟩ := hF15.out.st.2.2.1.four
                      obtain ⟨v0, v1, v2, v3⟩ := hF15.out.st.2.2.1.free4
                      have hfk := hid ((Kp.refl (fun b => b = w.heap.size + 1 + 1) w15).set4 (b := w.heap.size + 1 + 1) rfl (.int .i64 id) (.int .i64 ck') (.slice E1 nP g1) (.slice E2 nD g2))
                      have hend : Hid (FiPost id ck' true (lft I) (D ++ tld I) (msgs (tld I)) w (.returned (.tuple #[gpV id ck' (.slice E1 nP g1) (.slice E2 nD g2), .slice tA j tc, .bool true])) ((((w15.setCell ⟨w.heap.size + 1 + 1, 0, none⟩ (.int .i64 id)).setCell ⟨w.heap.size + 1 + 1, 1, none⟩ (.int .i64 ck')).setCell ⟨w.heap.size + 1 + 1, 2, none⟩ (.slice E1 nP g1)).setCell ⟨w.heap.size + 1 + 1, 3, none⟩ (.slice E2 nD g2))) := hid (by
                        rw [htld.out.1, htld.out.2]
                        refine ⟨E1, g1, E2, g2, tA, tc, by rw [hpl.out, hdl.out, htl.out], (hO15.out.kp hfk.out (fun b hb h => by omega)).more (by omega), ?_, hF15.out.st.2.2.2.2.trans (hfk.out.base hF15.out.st.2.2.2.2.size (fun i h => by omega))⟩
                        rw [htl.out]
                        exact (hfk.out.ownI hF15.out.td (fun b hb h => by have := (hF15.out.td.lt b hb).1; omega)).more (by omega))
                      clear ho15 hb15 hF hF15 hfk hO15 hrG e0 e1 e2 e3
                      go_wp2_with (exact bodyPost_ret (v := .tuple #[gpV id ck' (.slice E1 nP g1) (.slice E2 nD g2), .slice tA j tc, .bool true]) (by simp [results, Try.results40, go_sem, r0, r1, r2, r3]) rfl hend.out)
  · obtain ⟨rfl, rfl, rfl, rfl, rfl, rfl⟩ : id = id' ∧ ck = ck' ∧ P = P' ∧ D = D' ∧ [] = T' ∧ false = b' := by
      have h7 := (fi_miss (id := id) (ck := ck) (D := D) (s := (st, sg)) p2).symm.trans hR'.out
      simp only [Prod.mk.injEq, Gp.mk.injEq] at h7
      exact ⟨h7.1.1, h7.1.2.1, h7.1.2.2.1, h7.1.2.2.2, h7.2.1, h7.2.2⟩
    have hF := hid p2
    clear p2 p3
    go_wp2_with fail
    refine (l11Find_as hF.out _ hr6.out.rp hh1).mono ?_
    rintro e w7 ⟨rfl, rfl⟩
    go_wp2_with fail
    refine wp_region_below (by kernel_rfl) (by kernel_rfl) ?_
    repeat (go_big_quiet_step (fail))
    refine wpQuiet_nil ?_
    intro w8 hb8
    have hX8 := hid (hX6.out.step hb8)
    have hend := hid (href.out w8 hb8)
    obtain ⟨e0, e1, e2, e3⟩ := hX8.out.2.2.2.1.four
    obtain ⟨r0, r1, r2, r3⟩ := hX8.out.2.2.1.four
    obtain ⟨v0, v1, v2, v3⟩ := hX8.out.2.2.1.free4
    clear hb8
    go_wp2_with (exact bodyPost_ret (v := .tuple #[gpV id ck (.slice B1 P.length d1) (.slice B2 D.length d2), .slice (some ⟨w3.heap.size + 1, 0, none⟩) 0 0, .bool false]) (by simp [results, Try.results40, go_sem, r0, r1, r2, r3]) rfl hend.out)
end Go.Proofs.Ytbnmeedmeikepaa
