/-
  The walk of the law FnFinalTold: it returns true, and nothing that was there is written. No condition.
-/
import Derived.Test.YtbnmeedmeikepaaGnN
import Derived.Test.YtbnmeedmeikepaaGmYi
import Derived.Deep.CutBlock
import Derived.Deep.RegionLaw
import Derived.Deep.RegionHeld3
namespace Go.Proofs.Ytbnmeedmeikepaa
open Go.RowKit
set_option linter.unusedVariables false
set_option linter.unusedSimpArgs false


theorem size_allocT (w : World) (o : Obj) : (w.alloc o).heap.size = w.heap.size + 1 := Array.size_push _

theorem OwI.lit0T (w : World) {b : Nat} (h : w.heap.size = b) : OwI (w.alloc (.cells #[] 3)) b (.slice (some ⟨b, 0, none⟩) 0 0) [] := by
  subst h; exact OwI.empty_lit w (Nat.le_refl _)

theorem tr_lenT {g : Gp} {T : List Int} (h : trR g = T) : T.length ≤ g.D.length := by
  rw [← h, trR]
  split
  · simp [msgs]
  · exact Nat.zero_le _
/-- '[]int{}' and a whole slice appended -/
theorem run_appIT_nil {w : World} {ty : TypeId} {B : Nat} {v : Value} {zs : List Int} (hown : OwI w B v zs) (c : Nat) :
    (Builtin.append_ #[41, 41] ty #[v, .slice none 0 c]).run Try.prog w = .ok v w := by
  obtain ⟨i0, hi, hz0, hz1, hz2⟩ := info_parts info_int
  have hT : Try.prog.underlying 41 = some (.slice 3) := Try.underlying41
  rcases hown.2 with ⟨rfl, h0⟩ | ⟨g, cap, cur, rfl, _, _, hnc, _⟩
  · simp [Builtin.append_, run_underlying hT, sizeOf, typeInfo, hi, Builtin.lenOf, Builtin.firstCells]
  · simp [Builtin.append_, run_underlying hT, sizeOf, typeInfo, hi, Builtin.lenOf, Builtin.firstCells, hnc, storeCells]

theorem run_appIT {w : World} {ty : TypeId} {B Br : Nat} {v : Value} {zs ys : List Int} {A : Option Addr} {m c : Nat} (hown : OwI w B v zs) (hr : RdI w Br A m ys) (hB : B ≤ w.heap.size) (hn : zs.length + m < 1099511627776) :
    ∃ v' w', (Builtin.append_ #[41, 41] ty #[v, .slice A m c]).run Try.prog w = .ok v' w' ∧ OwI w' B v' (zs ++ ys) ∧ w.grownBy w' v.ownBlock ∧ (v'.ownBlock = v.ownBlock ∨ v'.ownBlock = some w.heap.size) := by
  have hT : Try.prog.underlying 41 = some (.slice 3) := Try.underlying41
  rcases A with _ | ad
  · have hm : m = 0 := by
      rcases Nat.eq_zero_or_pos m with h0 | h0
      · exact h0
      · obtain ⟨ad, h, _⟩ := hr.2 h0
        cases h
    subst hm
    have hy : ys = [] := List.eq_nil_of_length_eq_zero hr.len
    subst hy
    exact ⟨v, w, run_appIT_nil hown c, by rw [List.append_nil]; exact hown, World.grownBy.refl w _, .inl rfl⟩
  · obtain ⟨i0, hi, hz0, hz1, hz2⟩ := info_parts info_int
    have hl : (ints ys).length = m * 1 := by simp [ints, hr.len]
    have hc : ∀ j u, (ints ys)[j]? = some u → w.cell? (ad.add j) = some u := by
      intro j u hu
      have hj : j < m * 1 := by rw [← hl]; exact (List.getElem?_eq_some_iff.1 hu).1
      obtain ⟨ad', e, _, hcc⟩ := hr.2 (by omega)
      injection e with e
      subst e
      exact hcc j u hu
    obtain ⟨v', w', h1, h2, h3, _, h5⟩ := run_append_own_at (P := Try.prog) w B 41 ty 3 i0 (.int .i64 0) 1 8 hT hi hz0 hz1 hz2 rfl (by decide) v zs.length (ints zs) hown ad m c (ints ys) hl hc (ints_one ys) (by unfold maxLen; omega) (by omega) hB
    refine ⟨v', w', h1, ?_, h3, h5⟩
    show w'.ownsRow B 3 1 v' (zs ++ ys).length (ints (zs ++ ys))
    rw [show ints (zs ++ ys) = ints zs ++ ints ys from List.map_append, List.length_append, hr.len]
    exact h2
section
variable {w : World} {ops : Array Oper} {o : Oper} {a : Act} {K : Act → World → Prop} {Q : Exit → Act → World → Prop}

theorem wp_appIT (s x : Operand)
    (ho : o.op = .call { callee := .builtin .append, args := #[s, x], argTypes := #[41, 41] }) {B Br : Nat} {v : Value} {zs ys : List Int} {A : Option Addr} {m c : Nat} (hs : a.eval s = v) (hx : a.eval x = .slice A m c) (hown : OwI w B v zs) (hr : RdI w Br A m ys) (hB : B ≤ w.heap.size) (hn : zs.length + m < 1099511627776)
    (h : ∀ v' w', OwI w' B v' (zs ++ ys) → w.grownBy w' v.ownBlock → (v'.ownBlock = v.ownBlock ∨ v'.ownBlock = some w.heap.size) → K (a.put o.dst v') w') : o.wp Try.prog a w K Q := by
  obtain ⟨v', w', h1, h2, h3, h4⟩ := run_appIT (ty := o.type) (c := c) hown hr hB hn
  unfold Oper.wp execOp
  simp only [ho, resolve, invoke, builtin, Sem.run_bind, Sem.run_pure, Result.andThen_ok, List.map_toArray, List.map_cons, List.map_nil, hs, hx, h1]
  exact h v' w' h2 h3 h4

theorem step_appIT {E : Prop} (hgd : o.guard = none) (s x : Operand)
    (ho : o.op = .call { callee := .builtin .append, args := #[s, x], argTypes := #[41, 41] }) {B Br : Nat} {v : Value} {zs ys : List Int} {A : Option Addr} {m c : Nat} (hs : a.eval s = v) (hx : a.eval x = .slice A m c) (hown : OwI w B v zs) (hr : RdI w Br A m ys) (hB : B ≤ w.heap.size) (hn : zs.length + m < 1099511627776)
    (h : ∀ v' w', OwI w' B v' (zs ++ ys) → w.grownBy w' v.ownBlock → (v'.ownBlock = v.ownBlock ∨ v'.ownBlock = some w.heap.size) → K (a.put o.dst v') w') :
    if Region.wanted o (yielded ops a.tmps) = true then Oper.wp Try.prog o a w K Q else E := by
  have hw : Region.wanted o (yielded ops a.tmps) = true := by simp [Region.wanted, hgd]
  rw [if_pos hw]
  exact wp_appIT s x ho hs hx hown hr hB hn h
end


set_option maxRecDepth 100000 in
set_option maxHeartbeats 16000000 in
theorem lawFinalTold_at {a : Option Addr} {len cap : Nat} {zs : List Int} (w u0 : World) (h : RowIs .u8 u0 a len cap zs) (hB0 : Below w.heap.size w u0) (z_0 : w.heap.size ≤ u0.heap.size) :
    Calls Try.prog 4 #[.slice a len cap] u0 fun e w' => e = .returned (.bool true) ∧ Below w.heap.size w w' := by
  have hl := h.len_leN
  have B_0 := hid hB0
  have h' := hid h
  clear hB0 h
  by_cases hbig : 1048576 < len
  · go_enter Try.func4, Try.ntmps4
    go_wp2
    go_ret
    exact ⟨rfl, B_0.out⟩
  · go_enter Try.func4, Try.ntmps4
    go_wp2_with fail
    refine (DrawGroupFinal_any _ h'.out).mono ?_
    rintro e u1 ⟨i, k, A0, c0, E0, d0, P, D, msg, st, sg, rfl, ho, hl, hb⟩
    have hb_1 := hid hb
    have B_1 := hid (B_0.out.trans (hb_1.out.mono (by omega)))
    have z_1 : u0.heap.size ≤ u1.heap.size := hb_1.out.size
    clear  B_0
    clear hb_1
    clear hb
    have hP13 : P.length ≤ 13 := by omega
    have hD13 : D.length ≤ 13 := by omega
    clear hl
    have LG_1 := hid (Lg.of ho)
    clear ho
    go_upto_region 4 with (fail)
    obtain ⟨u2, hu⟩ : ∃ W, ((u1.alloc (.cells #[.int .i64 i, .int .i64 k, .slice A0 P.length c0, .slice E0 D.length d0] 25)).alloc (.cells #[.int .i64 st, .int .i64 sg] 29)) = W := ⟨_, rfl⟩
    rw [hu]
    have hb : Below u1.heap.size u1 u2 := by rw [← hu]; exact below2 _ _ _
    have hcG : Cs u2 (u1.heap.size) 25 #[.int .i64 i, .int .i64 k, .slice A0 P.length c0, .slice E0 D.length d0] := by rw [← hu]; exact (Cs.new _ _ _).alloc _
    have hcS : Cs u2 (u1.heap.size + 1) 29 #[.int .i64 st, .int .i64 sg] := by rw [← hu]; exact Cs.new' _ _ _ (by simp)
    clear hu
    have hb_2 := hid hb
    have LG_2 := hid (LG_1.out.step hb_2.out)
    have B_2 := hid (B_1.out.trans (hb_2.out.mono (by omega)))
    have z_2 : u1.heap.size ≤ u2.heap.size := hb_2.out.size
    clear LG_1 B_1
    clear hb_2
    clear hb
    have KG_2 := hid hcG
    have yG_2 : u1.heap.size < u2.heap.size := hcG.lt
    clear hcG
    have KS_2 := hid hcS
    have yS_2 : u1.heap.size + 1 < u2.heap.size := hcS.lt
    clear hcS
    obtain ⟨id', ck', P', D', T, b', hR⟩ : ∃ id' ck' P' D' T b', fiR ⟨i, k, P, D⟩ msg (st, sg) = (⟨id', ck', P', D'⟩, T, b') := ⟨_, _, _, _, _, _, rfl⟩
    have hPl : P'.length ≤ P.length := (fiR_lenN hR).1
    have hDl : D'.length ≤ D.length + P.length := (fiR_lenN hR).2.1
    have hTl : T.length ≤ P.length := (fiR_lenN hR).2.2
    replace hR := hid hR
    obtain ⟨qG0, qG1, qG2, qG3⟩ := KG_2.out.four
    obtain ⟨qS0, qS1, -, -⟩ := KS_2.out.two
    go_wp2_with fail
    refine (GroupFinal_impl hR.out _ (LG_2.out.ow.rdg (by omega) (by omega)) (by omega)).mono ?_
    rintro e u3 ⟨Ag, cg, Bg, dg, Cg, eg, rfl, og, ig, hb⟩
    clear qG0 qG1 qG2 qG3 qS0 qS1
    have hb_3 := hid hb
    have KG_3 := hid (KG_2.out.step hb_3.out)
    have KS_3 := hid (KS_2.out.step hb_3.out)
    have LG_3 := hid (LG_2.out.step hb_3.out)
    have B_3 := hid (B_2.out.trans (hb_3.out.mono (by omega)))
    have z_3 : u2.heap.size ≤ u3.heap.size := hb_3.out.size
    clear KG_2 KS_2 LG_2 B_2
    clear hb_3
    clear hb
    have Lo_3 := hid (Lg.of og)
    clear og
    have No_3 := hid (Lv.ofI ig)
    clear ig
    go_upto_region 5 with (fail)
    obtain ⟨u4, hu⟩ : ∃ W, (u3.alloc (.cells #[.int .i64 id', .int .i64 ck', .slice Ag P'.length cg, .slice Bg D'.length dg] 25)) = W := ⟨_, rfl⟩
    rw [hu]
    have hb : Below u3.heap.size u3 u4 := by rw [← hu]; exact below1 _ _
    have hco : Cs u4 (u3.heap.size) 25 #[.int .i64 id', .int .i64 ck', .slice Ag P'.length cg, .slice Bg D'.length dg] := by rw [← hu]; exact Cs.new _ _ _
    clear hu
    have hb_4 := hid hb
    have KG_4 := hid (KG_3.out.step hb_4.out)
    have KS_4 := hid (KS_3.out.step hb_4.out)
    have LG_4 := hid (LG_3.out.step hb_4.out)
    have Lo_4 := hid (Lo_3.out.step hb_4.out)
    have No_4 := hid (No_3.out.step hb_4.out)
    have B_4 := hid (B_3.out.trans (hb_4.out.mono (by omega)))
    have z_4 : u3.heap.size ≤ u4.heap.size := hb_4.out.size
    clear KG_3 KS_3 LG_3 Lo_3 No_3 B_3
    clear hb_4
    clear hb
    have Ko_4 := hid hco
    have yo_4 : u3.heap.size < u4.heap.size := hco.lt
    clear hco
    obtain ⟨qG0, qG1, qG2, qG3⟩ := KG_4.out.four
    obtain ⟨qS0, qS1, -, -⟩ := KS_4.out.two
    go_wp2_with fail
    refine (GroupFinal_spec hR.out _ (LG_4.out.ow.rdg (by omega) (by omega)) (by omega)).mono ?_
    rintro e u5 ⟨Aw, cw, Bw, dw, Cw, ew, rfl, ow, iw, hb⟩
    clear qG0 qG1 qG2 qG3 qS0 qS1
    have hb_5 := hid hb
    have KG_5 := hid (KG_4.out.step hb_5.out)
    have KS_5 := hid (KS_4.out.step hb_5.out)
    have Ko_5 := hid (Ko_4.out.step hb_5.out)
    have LG_5 := hid (LG_4.out.step hb_5.out)
    have Lo_5 := hid (Lo_4.out.step hb_5.out)
    have No_5 := hid (No_4.out.step hb_5.out)
    have B_5 := hid (B_4.out.trans (hb_5.out.mono (by omega)))
    have z_5 : u4.heap.size ≤ u5.heap.size := hb_5.out.size
    clear KG_4 KS_4 Ko_4 LG_4 Lo_4 No_4 B_4
    clear hb_5
    clear hb
    have Lw_5 := hid (Lg.of ow)
    clear ow
    have Nw_5 := hid (Lv.ofI iw)
    clear iw
    go_upto_region 6 with (fail)
    obtain ⟨u6, hu⟩ : ∃ W, (u5.alloc (.cells #[.int .i64 id', .int .i64 ck', .slice Aw P'.length cw, .slice Bw D'.length dw] 25)) = W := ⟨_, rfl⟩
    rw [hu]
    have hb : Below u5.heap.size u5 u6 := by rw [← hu]; exact below1 _ _
    have hcw : Cs u6 (u5.heap.size) 25 #[.int .i64 id', .int .i64 ck', .slice Aw P'.length cw, .slice Bw D'.length dw] := by rw [← hu]; exact Cs.new _ _ _
    clear hu
    have hb_6 := hid hb
    have KG_6 := hid (KG_5.out.step hb_6.out)
    have KS_6 := hid (KS_5.out.step hb_6.out)
    have Ko_6 := hid (Ko_5.out.step hb_6.out)
    have LG_6 := hid (LG_5.out.step hb_6.out)
    have Lo_6 := hid (Lo_5.out.step hb_6.out)
    have Lw_6 := hid (Lw_5.out.step hb_6.out)
    have No_6 := hid (No_5.out.step hb_6.out)
    have Nw_6 := hid (Nw_5.out.step hb_6.out)
    have B_6 := hid (B_5.out.trans (hb_6.out.mono (by omega)))
    have z_6 : u5.heap.size ≤ u6.heap.size := hb_6.out.size
    clear KG_5 KS_5 Ko_5 LG_5 Lo_5 Lw_5 No_5 Nw_5 B_5
    clear hb_6
    clear hb
    have Kw_6 := hid hcw
    have yw_6 : u5.heap.size < u6.heap.size := hcw.lt
    clear hcw
    cases b' with
    | false =>
      go_wp2_with fail
      refine (sameInts_any _ No_6.out.at_ Nw_6.out.at_ (by omega) (by omega)).mono ?_
      rw [sameB_selfN]
      rintro e u7 ⟨rfl, hq⟩
      have hb_7 := hid (hq.below u6.heap.size)
      have KG_7 := hid (KG_6.out.step hb_7.out)
      have KS_7 := hid (KS_6.out.step hb_7.out)
      have Ko_7 := hid (Ko_6.out.step hb_7.out)
      have Kw_7 := hid (Kw_6.out.step hb_7.out)
      have LG_7 := hid (LG_6.out.step hb_7.out)
      have Lo_7 := hid (Lo_6.out.step hb_7.out)
      have Lw_7 := hid (Lw_6.out.step hb_7.out)
      have No_7 := hid (No_6.out.step hb_7.out)
      have Nw_7 := hid (Nw_6.out.step hb_7.out)
      have B_7 := hid (B_6.out.trans (hb_7.out.mono (by omega)))
      have z_7 : u6.heap.size ≤ u7.heap.size := hb_7.out.size
      clear KG_6 KS_6 Ko_6 Kw_6 LG_6 Lo_6 Lw_6 No_6 Nw_6 B_6
      clear hb_7
      clear hq
      obtain ⟨qo0, qo1, qo2, qo3⟩ := Ko_7.out.four
      obtain ⟨qw0, qw1, qw2, qw3⟩ := Kw_7.out.four
      go_wp2_with fail
      refine (sameGroup_same id' ck' _ Lo_7.out.r1 Lo_7.out.r2 Lw_7.out.r1 Lw_7.out.r2 (by omega) (by omega)).mono ?_
      rintro e u8 ⟨rfl, hb⟩
      clear qo0 qo1 qo2 qo3 qw0 qw1 qw2 qw3
      have hb_8 := hid hb
      have KG_8 := hid (KG_7.out.step hb_8.out)
      have KS_8 := hid (KS_7.out.step hb_8.out)
      have Ko_8 := hid (Ko_7.out.step hb_8.out)
      have Kw_8 := hid (Kw_7.out.step hb_8.out)
      have LG_8 := hid (LG_7.out.step hb_8.out)
      have Lo_8 := hid (Lo_7.out.step hb_8.out)
      have Lw_8 := hid (Lw_7.out.step hb_8.out)
      have No_8 := hid (No_7.out.step hb_8.out)
      have Nw_8 := hid (Nw_7.out.step hb_8.out)
      have B_8 := hid (B_7.out.trans (hb_8.out.mono (by omega)))
      have z_8 : u7.heap.size ≤ u8.heap.size := hb_8.out.size
      clear KG_7 KS_7 Ko_7 Kw_7 LG_7 Lo_7 Lw_7 No_7 Nw_7 B_7
      clear hb_8
      clear hb
      go_wp2_with fail
      refine (sameInts_any _ No_8.out.at_ Nw_8.out.at_ (by omega) (by omega)).mono ?_
      rw [sameB_selfN]
      rintro e u9 ⟨rfl, hq⟩
      have hb_9 := hid (hq.below u8.heap.size)
      have KG_9 := hid (KG_8.out.step hb_9.out)
      have KS_9 := hid (KS_8.out.step hb_9.out)
      have Ko_9 := hid (Ko_8.out.step hb_9.out)
      have Kw_9 := hid (Kw_8.out.step hb_9.out)
      have LG_9 := hid (LG_8.out.step hb_9.out)
      have Lo_9 := hid (Lo_8.out.step hb_9.out)
      have Lw_9 := hid (Lw_8.out.step hb_9.out)
      have No_9 := hid (No_8.out.step hb_9.out)
      have Nw_9 := hid (Nw_8.out.step hb_9.out)
      have B_9 := hid (B_8.out.trans (hb_9.out.mono (by omega)))
      have z_9 : u8.heap.size ≤ u9.heap.size := hb_9.out.size
      clear KG_8 KS_8 Ko_8 Kw_8 LG_8 Lo_8 Lw_8 No_8 Nw_8 B_8
      clear hb_9
      clear hq
      obtain ⟨qo0, qo1, qo2, qo3⟩ := Ko_9.out.four
      obtain ⟨qw0, qw1, qw2, qw3⟩ := Kw_9.out.four
      go_wp2_with fail
      refine (sameGroup_same id' ck' _ Lo_9.out.r1 Lo_9.out.r2 Lw_9.out.r1 Lw_9.out.r2 (by omega) (by omega)).mono ?_
      rintro e u10 ⟨rfl, hb⟩
      clear qo0 qo1 qo2 qo3 qw0 qw1 qw2 qw3
      have hb_10 := hid hb
      have KG_10 := hid (KG_9.out.step hb_10.out)
      have KS_10 := hid (KS_9.out.step hb_10.out)
      have Ko_10 := hid (Ko_9.out.step hb_10.out)
      have Kw_10 := hid (Kw_9.out.step hb_10.out)
      have LG_10 := hid (LG_9.out.step hb_10.out)
      have Lo_10 := hid (Lo_9.out.step hb_10.out)
      have Lw_10 := hid (Lw_9.out.step hb_10.out)
      have No_10 := hid (No_9.out.step hb_10.out)
      have Nw_10 := hid (Nw_9.out.step hb_10.out)
      have B_10 := hid (B_9.out.trans (hb_10.out.mono (by omega)))
      have z_10 : u9.heap.size ≤ u10.heap.size := hb_10.out.size
      clear KG_9 KS_9 Ko_9 Kw_9 LG_9 Lo_9 Lw_9 No_9 Nw_9 B_9
      clear hb_10
      clear hb
      go_wp2
      go_ret
      exact ⟨rfl, B_10.out⟩
    | true =>
      go_wp2_with fail
      refine (sameInts_any _ No_6.out.at_ Nw_6.out.at_ (by omega) (by omega)).mono ?_
      rw [sameB_selfN]
      rintro e u7 ⟨rfl, hq⟩
      have hb_7 := hid (hq.below u6.heap.size)
      have KG_7 := hid (KG_6.out.step hb_7.out)
      have KS_7 := hid (KS_6.out.step hb_7.out)
      have Ko_7 := hid (Ko_6.out.step hb_7.out)
      have Kw_7 := hid (Kw_6.out.step hb_7.out)
      have LG_7 := hid (LG_6.out.step hb_7.out)
      have Lo_7 := hid (Lo_6.out.step hb_7.out)
      have Lw_7 := hid (Lw_6.out.step hb_7.out)
      have No_7 := hid (No_6.out.step hb_7.out)
      have Nw_7 := hid (Nw_6.out.step hb_7.out)
      have B_7 := hid (B_6.out.trans (hb_7.out.mono (by omega)))
      have z_7 : u6.heap.size ≤ u7.heap.size := hb_7.out.size
      clear KG_6 KS_6 Ko_6 Kw_6 LG_6 Lo_6 Lw_6 No_6 Nw_6 B_6
      clear hb_7
      clear hq
      obtain ⟨qo0, qo1, qo2, qo3⟩ := Ko_7.out.four
      obtain ⟨qw0, qw1, qw2, qw3⟩ := Kw_7.out.four
      go_wp2_with fail
      refine (sameGroup_same id' ck' _ Lo_7.out.r1 Lo_7.out.r2 Lw_7.out.r1 Lw_7.out.r2 (by omega) (by omega)).mono ?_
      rintro e u8 ⟨rfl, hb⟩
      clear qo0 qo1 qo2 qo3 qw0 qw1 qw2 qw3
      have hb_8 := hid hb
      have KG_8 := hid (KG_7.out.step hb_8.out)
      have KS_8 := hid (KS_7.out.step hb_8.out)
      have Ko_8 := hid (Ko_7.out.step hb_8.out)
      have Kw_8 := hid (Kw_7.out.step hb_8.out)
      have LG_8 := hid (LG_7.out.step hb_8.out)
      have Lo_8 := hid (Lo_7.out.step hb_8.out)
      have Lw_8 := hid (Lw_7.out.step hb_8.out)
      have No_8 := hid (No_7.out.step hb_8.out)
      have Nw_8 := hid (Nw_7.out.step hb_8.out)
      have B_8 := hid (B_7.out.trans (hb_8.out.mono (by omega)))
      have z_8 : u7.heap.size ≤ u8.heap.size := hb_8.out.size
      clear KG_7 KS_7 Ko_7 Kw_7 LG_7 Lo_7 Lw_7 No_7 Nw_7 B_7
      clear hb_8
      clear hb
      clear Kw_8
      clear Lw_8
      clear Nw_8
      clear KS_8
      obtain ⟨Y, hY⟩ : ∃ Y, trR ⟨i, k, P, D⟩ = Y := ⟨_, rfl⟩
      have hYl : Y.length ≤ D.length := tr_lenT hY
      have hyt := fi_told hR.out
      rw [hY] at hyt
      obtain ⟨Z, hZ⟩ : ∃ Z, Y ++ T = Z := ⟨_, rfl⟩
      rw [hZ] at hyt
      have hZl : Z.length = Y.length + T.length := by rw [← hZ, List.length_append]
      have hZl2 : Z.length ≤ 100 := by omega
      clear hZl
      replace hyt := hid hyt
      replace hY := hid hY
      replace hZ := hid hZ
      have hd : Below u8.heap.size u8 u8.drew := (Below.refl u8.heap.size u8).drew
      have LG_d := hid (LG_8.out.step hd)
      have Lo_d := hid (Lo_8.out.step hd)
      have No_d := hid (No_8.out.step hd)
      have KG_d := hid (KG_8.out.step hd)
      have Ko_d := hid (Ko_8.out.step hd)
      have B_d := hid (B_8.out.trans (hd.mono (by omega)))
      have z_d := (hd).size
      clear hd
      have hz : Below u8.heap.size u8 (u8.drew.alloc (.cells #[] 3)) := (Below.refl u8.heap.size u8).drew.alloc (Nat.le_refl _) _
      have LG_z := hid (LG_8.out.step hz)
      have Lo_z := hid (Lo_8.out.step hz)
      have No_z := hid (No_8.out.step hz)
      have KG_z := hid (KG_8.out.step hz)
      have Ko_z := hid (Ko_8.out.step hz)
      have B_z := hid (B_8.out.trans (hz.mono (by omega)))
      have z_z := (hz).size
      clear hz
      have NL_z := hid (Lv.ofI (OwI.lit0T u8.drew rfl))
      have zz : (u8.drew.alloc (.cells #[] 3)).heap.size = u8.heap.size + 1 := size_allocT u8.drew (.cells #[] 3)
      have zd : u8.drew.heap.size = u8.heap.size := rfl
      have hv : Below u8.heap.size u8 (u8.alloc (.cells #[] 3)).drew := (below1 u8 _).drew
      have LG_v := hid (LG_8.out.step hv)
      have Lo_v := hid (Lo_8.out.step hv)
      have No_v := hid (No_8.out.step hv)
      have KG_v := hid (KG_8.out.step hv)
      have Ko_v := hid (Ko_8.out.step hv)
      have B_v := hid (B_8.out.trans (hv.mono (by omega)))
      have z_v := (hv).size
      clear hv
      have NL_v := hid (show Lv (u8.alloc (.cells #[] 3)).drew u8.heap.size (u8.alloc (.cells #[] 3)).heap.size (.slice (some ⟨u8.heap.size, 0, none⟩) 0 0) [] from Lv.ofI (OwI.lit0T u8 rfl))
      have zv : (u8.alloc (.cells #[] 3)).drew.heap.size = u8.heap.size + 1 := size_allocT u8 (.cells #[] 3)
      obtain ⟨qG0, qG1, qG2, qG3⟩ := KG_8.out.four
      obtain ⟨qo0, qo1, qo2, qo3⟩ := Ko_8.out.four
      obtain ⟨Gv0, Gv1, Gv2, Gv3⟩ := (KG_8.out.step (below1 u8 (.cells #[] 3))).four
      obtain ⟨ov0, ov1, ov2, ov3⟩ := (Ko_8.out.step (below1 u8 (.cells #[] 3))).four
      go_upto_region 8 with (fail)
      go_region_law (first | (refine step_appIT rfl (.tmp 71) (.tmp 73) rfl (zs := []) (ys := Y) rfl rfl NL_f.out.1.1 NF_f.out.at_ (by omega) (by rw [List.length_nil]; omega) ?_; intro v3 x3 h3 hg3 hv3; rw [List.nil_append] at h3; obtain ⟨A3, c3, rfl, -⟩ := h3.form; have hk3 := hid ((Kp.refl _ _).grown hg3 (fun b h => .inr h)); have NE_3 := hid (NE_f.out.kp hk3.out (fun b h1 h2 h5 => by have h6 := Option.some.inj h5; (try dsimp only at h6); omega)); have No_3 := hid (No_f.out.kp hk3.out (fun b h1 h2 h5 => by have h6 := Option.some.inj h5; (try dsimp only at h6); omega)); have B_3 := hid (B_f.out.trans (hk3.out.base (by omega) (fun b h5 => by have h6 := Option.some.inj h5; (try dsimp only at h6); omega))); have z_3 := hk3.out.size; have NV_3 := hid (Lv.ofI h3); replace hv3 := hid hv3; clear h3 hg3 hk3) | (have LG_g := hid (LG_f.out.step (below1 xf (.cells #[] 3))); have Lo_g := hid (Lo_f.out.step (below1 xf (.cells #[] 3))); have No_g := hid (No_f.out.step (below1 xf (.cells #[] 3))); have NE_g := hid (NE_f.out.step (below1 xf (.cells #[] 3))); have NF_g := hid (NF_f.out.step (below1 xf (.cells #[] 3))); have B_g := hid (B_f.out.trans ((below1 xf (.cells #[] 3)).mono (by omega))); have zg := size_allocT xf (.cells #[] 3); have NL_g := hid (Lv.ofI (OwI.lit0T xf rfl)); refine step_appIT rfl (.tmp 71) (.tmp 73) rfl (zs := []) (ys := Y) rfl rfl NL_g.out.1.1 NF_g.out.at_ (by omega) (by rw [List.length_nil]; omega) ?_; intro v3 x3 h3 hg3 hv3; rw [List.nil_append] at h3; obtain ⟨A3, c3, rfl, -⟩ := h3.form; have hk3 := hid ((Kp.refl _ _).grown hg3 (fun b h => .inr h)); have NE_3 := hid (NE_g.out.kp hk3.out (fun b h1 h2 h5 => by have h6 := Option.some.inj h5; (try dsimp only at h6); omega)); have No_3 := hid (No_g.out.kp hk3.out (fun b h1 h2 h5 => by have h6 := Option.some.inj h5; (try dsimp only at h6); omega)); have B_3 := hid (B_g.out.trans (hk3.out.base (by omega) (fun b h5 => by have h6 := Option.some.inj h5; (try dsimp only at h6); omega))); have z_3 := hk3.out.size; have NV_3 := hid (Lv.ofI h3); replace hv3 := hid hv3; clear h3 hg3 hk3) | (refine step_appIT rfl (.tmp 74) (.tmp 75) rfl (zs := Y) (ys := T) rfl rfl NV_3.out.1.1 No_3.out.at_ (by omega) (by omega) ?_; intro v4 x4 h4 hg4 hv4; rw [hZ.out] at h4; obtain ⟨A4, c4, rfl, -⟩ := h4.form; have hk4 := hid ((Kp.refl _ _).grown hg4 (fun b h => .inr h)); have NE_4 := hid (NE_3.out.kp hk4.out (fun b h1 h2 h5 => by rcases hv3.out with h7 | h7 <;> (have h6 := Option.some.inj (h7.symm.trans h5); (try dsimp only at h6); omega))); have B_4 := hid (B_3.out.trans (hk4.out.base (by omega) (fun b h5 => by rcases hv3.out with h7 | h7 <;> (have h6 := Option.some.inj (h7.symm.trans h5); (try dsimp only at h6); omega)))); have z_4 := hk4.out.size; have NV_4 := hid (Lv.ofI h4); clear h4 hg4 hk4) | (go_simp; (first | (go_at_call 16; (with_reducible refine (GroupTrace_impl hyt.out _ (Lo_d.out.ow.rdg (by omega) (by omega))).mono ?_); rintro e xe ⟨AE, cE, rfl, oE, hb⟩; have LG_e := hid (LG_d.out.step hb); have Lo_e := hid (Lo_d.out.step hb); have No_e := hid (No_d.out.step hb); have KG_e := hid (KG_d.out.step hb); have Ko_e := hid (Ko_d.out.step hb); have B_e := hid (B_d.out.trans (hb.mono (by omega))); have z_e := hb.size; have NE_e := hid (Lv.ofI oE); obtain ⟨Ge0, Ge1, Ge2, Ge3⟩ := KG_e.out.four; obtain ⟨oe0, oe1, oe2, oe3⟩ := Ko_e.out.four; obtain ⟨Ga0, Ga1, Ga2, Ga3⟩ := (KG_e.out.step (below1 xe (.cells #[] 3))).four; clear hb oE) | (go_at_call 16; (with_reducible refine (GroupTrace_impl hyt.out _ (Lo_z.out.ow.rdg (by omega) (by omega))).mono ?_); rintro e xy ⟨AE, cE, rfl, oE, hb⟩; have LG_y := hid (LG_z.out.step hb); have Lo_y := hid (Lo_z.out.step hb); have No_y := hid (No_z.out.step hb); have KG_y := hid (KG_z.out.step hb); have Ko_y := hid (Ko_z.out.step hb); have NL_y := hid (NL_z.out.step hb); have B_y := hid (B_z.out.trans (hb.mono (by omega))); have z_y := hb.size; have NE_y := hid (Lv.ofI oE); obtain ⟨Gy0, Gy1, Gy2, Gy3⟩ := KG_y.out.four; obtain ⟨oy0, oy1, oy2, oy3⟩ := Ko_y.out.four; clear hb oE) | (go_at_call 16; (with_reducible refine (GroupTrace_impl hyt.out _ (Lo_v.out.ow.rdg (by omega) (by omega))).mono ?_); rintro e xy ⟨AE, cE, rfl, oE, hb⟩; have LG_y := hid (LG_v.out.step hb); have Lo_y := hid (Lo_v.out.step hb); have No_y := hid (No_v.out.step hb); have KG_y := hid (KG_v.out.step hb); have Ko_y := hid (Ko_v.out.step hb); have NL_y := hid (NL_v.out.step hb); have B_y := hid (B_v.out.trans (hb.mono (by omega))); have z_y := hb.size; have NE_y := hid (Lv.ofI oE); obtain ⟨Gy0, Gy1, Gy2, Gy3⟩ := KG_y.out.four; obtain ⟨oy0, oy1, oy2, oy3⟩ := Ko_y.out.four; clear hb oE) | (go_at_call 16; (with_reducible refine (GroupTrace_impl hY.out _ (LG_e.out.ow.rdg (by omega) (by omega))).mono ?_); rintro e xf ⟨AF, cF, rfl, oF, hb⟩; have LG_f := hid (LG_e.out.step hb); have Lo_f := hid (Lo_e.out.step hb); have No_f := hid (No_e.out.step hb); have KG_f := hid (KG_e.out.step hb); have Ko_f := hid (Ko_e.out.step hb); have NE_f := hid (NE_e.out.step hb); have B_f := hid (B_e.out.trans (hb.mono (by omega))); have z_f := hb.size; have NF_f := hid (Lv.ofI oF); clear hb oF) | (go_at_call 16; (with_reducible refine (GroupTrace_impl hY.out _ (LG_y.out.ow.rdg (by omega) (by omega))).mono ?_); rintro e xf ⟨AF, cF, rfl, oF, hb⟩; have LG_f := hid (LG_y.out.step hb); have Lo_f := hid (Lo_y.out.step hb); have No_f := hid (No_y.out.step hb); have KG_f := hid (KG_y.out.step hb); have Ko_f := hid (Ko_y.out.step hb); have NE_f := hid (NE_y.out.step hb); have NL_f := hid (NL_y.out.step hb); have B_f := hid (B_y.out.trans (hb.mono (by omega))); have z_f := hb.size; have NF_f := hid (Lv.ofI oF); clear hb oF) | (go_at_call 16; have LG_a := hid (LG_e.out.step (below1 xe (.cells #[] 3))); have Lo_a := hid (Lo_e.out.step (below1 xe (.cells #[] 3))); have No_a := hid (No_e.out.step (below1 xe (.cells #[] 3))); have KG_a := hid (KG_e.out.step (below1 xe (.cells #[] 3))); have Ko_a := hid (Ko_e.out.step (below1 xe (.cells #[] 3))); have NE_a := hid (NE_e.out.step (below1 xe (.cells #[] 3))); have B_a := hid (B_e.out.trans ((below1 xe (.cells #[] 3)).mono (by omega))); have za := size_allocT xe (.cells #[] 3); have NL_a := hid (Lv.ofI (OwI.lit0T xe rfl)); (with_reducible refine (GroupTrace_impl hY.out _ (LG_a.out.ow.rdg (by omega) (by omega))).mono ?_); rintro e xf ⟨AF, cF, rfl, oF, hb⟩; have LG_f := hid (LG_a.out.step hb); have Lo_f := hid (Lo_a.out.step hb); have No_f := hid (No_a.out.step hb); have KG_f := hid (KG_a.out.step hb); have Ko_f := hid (Ko_a.out.step hb); have NE_f := hid (NE_a.out.step hb); have NL_f := hid (NL_a.out.step hb); have B_f := hid (B_a.out.trans (hb.mono (by omega))); have z_f := hb.size; have NF_f := hid (Lv.ofI oF); clear hb oF) | (go_at_call 15; (refine (sameInts_any _ NE_4.out.at_ NV_4.out.at_ (by omega) (by omega)).mono ?_); rw [sameB_selfN]; rintro e x5 ⟨rfl, hq⟩; have B_5 := hid (B_4.out.trans ((hq.below x4.heap.size).mono (by omega))); clear hq))))
      all_goals
        go_wp2
        go_ret
        exact ⟨rfl, B_5.out⟩

theorem lawFinalTold {a : Option Addr} {len cap : Nat} {zs : List Int} (w : World) (h : RowIs .u8 w a len cap zs) :
    Calls Try.prog 4 #[.slice a len cap] w fun e w' => e = .returned (.bool true) ∧ Below w.heap.size w w' :=
  lawFinalTold_at w w h (Below.refl _ _) (Nat.le_refl _)
end Go.Proofs.Ytbnmeedmeikepaa
