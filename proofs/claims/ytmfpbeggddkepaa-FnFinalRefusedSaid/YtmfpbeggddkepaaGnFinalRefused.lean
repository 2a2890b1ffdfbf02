/-
  The walk of the law FnFinalRefused: it returns true, and nothing that was there is written. No condition.
-/
import Derived.Test.YtmfpbeggddkepaaGnN
import Derived.Test.YtmfpbeggddkepaaGmYi
import Derived.Deep.CutBlock
import Derived.Deep.RegionLaw
import Derived.Deep.RegionHeld3
namespace Go.Proofs.Ytmfpbeggddkepaa
open Go.RowKit
set_option linter.unusedVariables false
set_option linter.unusedSimpArgs false



/-- does another message of the list have the stamp? -/
def anyS (l : List En) (m : Int) (s : St) : Bool := l.any fun e => e.1 != m && (e.2.1.1 == s.1 && e.2.1.2 == s.2)

theorem anyS_snoc {l : List En} {j : Nat} {x : En} (hx : l[j]? = some x) (m : Int) (s : St) : anyS (l.take (j + 1)) m s = (anyS (l.take j) m s || (x.1 != m && (x.2.1.1 == s.1 && x.2.1.2 == s.2))) := by
  unfold anyS; rw [take_snocE hx, List.any_append]; simp

theorem anyS_false {l : List En} {m : Int} {s : St} : anyS l m s = false ↔ ∀ e ∈ l, e.1 ≠ m → e.2.1 ≠ s := by
  unfold anyS; rw [List.any_eq_false]
  constructor
  · intro h e he hm hs
    have := h e he
    simp [hm, hs] at this
  · intro h e he hh
    simp only [Bool.and_eq_true, bne_iff_ne, beq_iff_eq] at hh
    exact h e he hh.1 (Prod.ext hh.2.1 hh.2.2)
/-- a final stamp is taken or refused, by what the law looks at -/
theorem fr_all {g g' : Gp} {m : Int} {s : St} {T : List Int} {b kn : Bool} {x : En} (h : fiR g m s = (g', T, b)) (hv : vdB g = true) (hm : msB m = true) (hs : okS s = true) (hx : stR g m = (x, kn)) :
    b = !(!kn || (x.2.2 || (stL s.1 s.2 x.2.1.1 x.2.1.2 || anyS g.P m s))) ∧ (b = false → g' = g) := by
  have hvd := vdB_true.1 hv
  have hb : b = fiOk g m s ∧ (b = false → g' = g) := by
    unfold fiR at h
    rw [if_pos (by rw [hv, hm, hs]; rfl)] at h
    cases hf : fiOk g m s with
    | true => rw [fiA_yes hf] at h; simp only [Prod.mk.injEq] at h; exact ⟨h.2.2.symm, fun e => by rw [← h.2.2] at e; cases e⟩
    | false => rw [fiA_no hf] at h; simp only [Prod.mk.injEq] at h; exact ⟨h.2.2.symm, fun _ => h.1.symm⟩
  refine ⟨?_, hb.2⟩
  rw [hb.1]
  unfold stR at hx
  rw [if_pos hv] at hx
  have hle : ∀ e : En, okS e.2.1 = true → stL s.1 s.2 e.2.1.1 e.2.1.2 = ltS s e.2.1 := fun e he => by
    have a1 : stB s.1 s.2 = true := hs
    have a2 : stB e.2.1.1 e.2.1.2 = true := he
    unfold stL; rw [a1, a2]; rfl
  rcases stA_cases (g := g) m with ⟨e, he, e1, hst⟩ | ⟨hP, e, he, e1, hst⟩ | ⟨hP, hD, hst⟩
  · rw [hst] at hx; simp only [Prod.mk.injEq] at hx
    obtain ⟨rfl, rfl⟩ := hx
    rw [hle e (okE_true.1 (hvd.ok (.inr he))).2.1]
    cases hf : fiOk g m s with
    | true =>
      obtain ⟨y, hy, y1, y2, y3, y4⟩ := (fiOk_iff hvd m s).1 hf
      have : y = e := by
        have k := stA_P hvd hy
        rw [y1, hst] at k; simp only [Prod.mk.injEq, and_true] at k; exact k.symm
      subst this
      rw [y2, y3, anyS_false.2 (fun d hd hn => y4 d (.inr hd) hn)]; rfl
    | false =>
      cases hfin : e.2.2 with
      | true => rfl
      | false =>
        cases hlt : ltS s e.2.1 with
        | true => rfl
        | false =>
          cases ha : anyS g.P m s with
          | true => rfl
          | false =>
            exfalso
            have : fiOk g m s = true := (fiOk_iff hvd m s).2 ⟨e, he, e1, hfin, hlt, fun d hd hn heq => by
              rcases hd with hd | hd
              · have k := (hvd.lt hd he).1
                rw [heq, hlt] at k; cases k
              · exact anyS_false.1 ha d hd hn heq⟩
            rw [hf] at this; cases this
  · rw [hst] at hx; simp only [Prod.mk.injEq] at hx
    obtain ⟨rfl, rfl⟩ := hx
    rw [hvd.2.2.2.2.1 e he]
    cases hf : fiOk g m s with
    | true =>
      obtain ⟨y, hy, y1, _⟩ := (fiOk_iff hvd m s).1 hf
      exact absurd y1 (hP y hy)
    | false => rfl
  · rw [hst] at hx; simp only [Prod.mk.injEq] at hx
    obtain ⟨rfl, rfl⟩ := hx
    cases hf : fiOk g m s with
    | true =>
      obtain ⟨y, hy, y1, _⟩ := (fiOk_iff hvd m s).1 hf
      exact absurd y1 (hP y hy)
    | false => rfl

theorem StampLess_asR {a b c d : Int} {r : Bool} (h : stL a b c d = r) (w : World) : Calls Try.prog 23 #[two a b, two c d] w fun e w' => e = .returned (.bool r) ∧ Below w.heap.size w w' := by
  have := StampLess_impl a b c d w; rw [h] at this; exact this


set_option maxRecDepth 100000 in
set_option maxHeartbeats 16000000 in
theorem lawFinalRefused_at {a : Option Addr} {len cap : Nat} {zs : List Int} (w u0 : World) (h : RowIs .u8 u0 a len cap zs) (hB0 : Below w.heap.size w u0) (z_0 : w.heap.size ≤ u0.heap.size) :
    Calls Try.prog 5 #[.slice a len cap] u0 fun e w' => e = .returned (.bool true) ∧ Below w.heap.size w w' := by
  have hl := h.len_leN
  have B_0 := hid hB0
  have h' := hid h
  clear hB0 h
  by_cases hbig : 1048576 < len
  · go_enter Try.func5, Try.ntmps5
    go_wp2
    go_ret
    exact ⟨rfl, B_0.out⟩
  · go_enter Try.func5, Try.ntmps5
    go_wp2_with fail
    refine (DrawGroupFinal_any _ h'.out).mono ?_
    rintro e u1 ⟨i, k, A0, c0, E0, d0, P, D, msg, st, sg, rfl, ho, hl, hb⟩
    have hb_1 := hid hb
    have B_1 := hid (B_0.out.trans (hb_1.out.mono (by omega)))
    have z_1 : u0.heap.size ≤ u1.heap.size := hb_1.out.size
    clear  B_0
    clear hb_1
    clear hb
    have hP13 : P.length ≤ 13 := by omega
    have hD13 : D.length ≤ 13 := by omega
    clear hl
    have LG_1 := hid (Lg.of ho)
    clear ho
    go_upto_region 4 with (fail)
    obtain ⟨u2, hu⟩ : ∃ W, ((u1.alloc (.cells #[.int .i64 i, .int .i64 k, .slice A0 P.length c0, .slice E0 D.length d0] 25)).alloc (.cells #[.int .i64 st, .int .i64 sg] 29)) = W := ⟨_, rfl⟩
    rw [hu]
    have hb : Below u1.heap.size u1 u2 := by rw [← hu]; exact below2 _ _ _
    have hcG : Cs u2 (u1.heap.size) 25 #[.int .i64 i, .int .i64 k, .slice A0 P.length c0, .slice E0 D.length d0] := by rw [← hu]; exact (Cs.new _ _ _).alloc _
    have hcS : Cs u2 (u1.heap.size + 1) 29 #[.int .i64 st, .int .i64 sg] := by rw [← hu]; exact Cs.new' _ _ _ (by simp)
    clear hu
    have hb_2 := hid hb
    have LG_2 := hid (LG_1.out.step hb_2.out)
    have B_2 := hid (B_1.out.trans (hb_2.out.mono (by omega)))
    have z_2 : u1.heap.size ≤ u2.heap.size := hb_2.out.size
    clear LG_1 B_1
    clear hb_2
    clear hb
    have KG_2 := hid hcG
    have yG_2 : u1.heap.size < u2.heap.size := hcG.lt
    clear hcG
    have KS_2 := hid hcS
    have yS_2 : u1.heap.size + 1 < u2.heap.size := hcS.lt
    clear hcS
    obtain ⟨id', ck', P', D', T, b', hR⟩ : ∃ id' ck' P' D' T b', fiR ⟨i, k, P, D⟩ msg (st, sg) = (⟨id', ck', P', D'⟩, T, b') := ⟨_, _, _, _, _, _, rfl⟩
    have hPl : P'.length ≤ P.length := (fiR_lenN hR).1
    have hDl : D'.length ≤ D.length + P.length := (fiR_lenN hR).2.1
    have hTl : T.length ≤ P.length := (fiR_lenN hR).2.2
    replace hR := hid hR
    obtain ⟨qG0, qG1, qG2, qG3⟩ := KG_2.out.four
    obtain ⟨qS0, qS1, -, -⟩ := KS_2.out.two
    go_wp2_with fail
    refine (GroupFinal_impl hR.out _ (LG_2.out.ow.rdg (by omega) (by omega)) (by omega)).mono ?_
    rintro e u3 ⟨Ag, cg, Bg, dg, Cg, eg, rfl, og, ig, hb⟩
    clear qG0 qG1 qG2 qG3 qS0 qS1
    have hb_3 := hid hb
    have KG_3 := hid (KG_2.out.step hb_3.out)
    have KS_3 := hid (KS_2.out.step hb_3.out)
    have LG_3 := hid (LG_2.out.step hb_3.out)
    have B_3 := hid (B_2.out.trans (hb_3.out.mono (by omega)))
    have z_3 : u2.heap.size ≤ u3.heap.size := hb_3.out.size
    clear KG_2 KS_2 LG_2 B_2
    clear hb_3
    clear hb
    have Lo_3 := hid (Lg.of og)
    clear og
    have No_3 := hid (Lv.ofI ig)
    clear ig
    go_upto_region 5 with (fail)
    obtain ⟨u4, hu⟩ : ∃ W, (u3.alloc (.cells #[.int .i64 id', .int .i64 ck', .slice Ag P'.length cg, .slice Bg D'.length dg] 25)) = W := ⟨_, rfl⟩
    rw [hu]
    have hb : Below u3.heap.size u3 u4 := by rw [← hu]; exact below1 _ _
    have hco : Cs u4 (u3.heap.size) 25 #[.int .i64 id', .int .i64 ck', .slice Ag P'.length cg, .slice Bg D'.length dg] := by rw [← hu]; exact Cs.new _ _ _
    clear hu
    have hb_4 := hid hb
    have KG_4 := hid (KG_3.out.step hb_4.out)
    have KS_4 := hid (KS_3.out.step hb_4.out)
    have LG_4 := hid (LG_3.out.step hb_4.out)
    have Lo_4 := hid (Lo_3.out.step hb_4.out)
    have No_4 := hid (No_3.out.step hb_4.out)
    have B_4 := hid (B_3.out.trans (hb_4.out.mono (by omega)))
    have z_4 : u3.heap.size ≤ u4.heap.size := hb_4.out.size
    clear KG_3 KS_3 LG_3 Lo_3 No_3 B_3
    clear hb_4
    clear hb
    have Ko_4 := hid hco
    have yo_4 : u3.heap.size < u4.heap.size := hco.lt
    clear hco
    obtain ⟨qG0, qG1, qG2, qG3⟩ := KG_4.out.four
    obtain ⟨qS0, qS1, -, -⟩ := KS_4.out.two
    go_wp2_with fail
    refine (GroupFinal_spec hR.out _ (LG_4.out.ow.rdg (by omega) (by omega)) (by omega)).mono ?_
    rintro e u5 ⟨Aw, cw, Bw, dw, Cw, ew, rfl, ow, iw, hb⟩
    clear qG0 qG1 qG2 qG3 qS0 qS1
    have hb_5 := hid hb
    have KG_5 := hid (KG_4.out.step hb_5.out)
    have KS_5 := hid (KS_4.out.step hb_5.out)
    have Ko_5 := hid (Ko_4.out.step hb_5.out)
    have LG_5 := hid (LG_4.out.step hb_5.out)
    have Lo_5 := hid (Lo_4.out.step hb_5.out)
    have No_5 := hid (No_4.out.step hb_5.out)
    have B_5 := hid (B_4.out.trans (hb_5.out.mono (by omega)))
    have z_5 : u4.heap.size ≤ u5.heap.size := hb_5.out.size
    clear KG_4 KS_4 Ko_4 LG_4 Lo_4 No_4 B_4
    clear hb_5
    clear hb
    have Lw_5 := hid (Lg.of ow)
    clear ow
    have Nw_5 := hid (Lv.ofI iw)
    clear iw
    go_upto_region 6 with (fail)
    obtain ⟨u6, hu⟩ : ∃ W, (u5.alloc (.cells #[.int .i64 id', .int .i64 ck', .slice Aw P'.length cw, .slice Bw D'.length dw] 25)) = W := ⟨_, rfl⟩
    rw [hu]
    have hb : Below u5.heap.size u5 u6 := by rw [← hu]; exact below1 _ _
    have hcw : Cs u6 (u5.heap.size) 25 #[.int .i64 id', .int .i64 ck', .slice Aw P'.length cw, .slice Bw D'.length dw] := by rw [← hu]; exact Cs.new _ _ _
    clear hu
    have hb_6 := hid hb
    have KG_6 := hid (KG_5.out.step hb_6.out)
    have KS_6 := hid (KS_5.out.step hb_6.out)
    have Ko_6 := hid (Ko_5.out.step hb_6.out)
    have LG_6 := hid (LG_5.out.step hb_6.out)
    have Lo_6 := hid (Lo_5.out.step hb_6.out)
    have Lw_6 := hid (Lw_5.out.step hb_6.out)
    have No_6 := hid (No_5.out.step hb_6.out)
    have Nw_6 := hid (Nw_5.out.step hb_6.out)
    have B_6 := hid (B_5.out.trans (hb_6.out.mono (by omega)))
    have z_6 : u5.heap.size ≤ u6.heap.size := hb_6.out.size
    clear KG_5 KS_5 Ko_5 LG_5 Lo_5 Lw_5 No_5 Nw_5 B_5
    clear hb_6
    clear hb
    have Kw_6 := hid hcw
    have yw_6 : u5.heap.size < u6.heap.size := hcw.lt
    clear hcw
    have f0 : (b' == b') = true := by cases b' <;> rfl
    have f1 : (b' != b') = false := by cases b' <;> rfl
    cases hv : vdB ⟨i, k, P, D⟩ with
    | false =>
      have hv := hid hv
      go_wp2_with fail
      refine (sameInts_any _ No_6.out.at_ Nw_6.out.at_ (by omega) (by omega)).mono ?_
      rw [sameB_selfN]
      rintro e u7 ⟨rfl, hq⟩
      have hb_7 := hid (hq.below u6.heap.size)
      have KG_7 := hid (KG_6.out.step hb_7.out)
      have KS_7 := hid (KS_6.out.step hb_7.out)
      have Ko_7 := hid (Ko_6.out.step hb_7.out)
      have Kw_7 := hid (Kw_6.out.step hb_7.out)
      have LG_7 := hid (LG_6.out.step hb_7.out)
      have Lo_7 := hid (Lo_6.out.step hb_7.out)
      have Lw_7 := hid (Lw_6.out.step hb_7.out)
      have No_7 := hid (No_6.out.step hb_7.out)
      have Nw_7 := hid (Nw_6.out.step hb_7.out)
      have B_7 := hid (B_6.out.trans (hb_7.out.mono (by omega)))
      have z_7 : u6.heap.size ≤ u7.heap.size := hb_7.out.size
      clear KG_6 KS_6 Ko_6 Kw_6 LG_6 Lo_6 Lw_6 No_6 Nw_6 B_6
      clear hb_7
      clear hq
      obtain ⟨qo0, qo1, qo2, qo3⟩ := Ko_7.out.four
      obtain ⟨qw0, qw1, qw2, qw3⟩ := Kw_7.out.four
      go_wp2_with fail
      refine (sameGroup_same id' ck' _ Lo_7.out.r1 Lo_7.out.r2 Lw_7.out.r1 Lw_7.out.r2 (by omega) (by omega)).mono ?_
      rintro e u8 ⟨rfl, hb⟩
      clear qo0 qo1 qo2 qo3 qw0 qw1 qw2 qw3
      have hb_8 := hid hb
      have KG_8 := hid (KG_7.out.step hb_8.out)
      have KS_8 := hid (KS_7.out.step hb_8.out)
      have Ko_8 := hid (Ko_7.out.step hb_8.out)
      have Kw_8 := hid (Kw_7.out.step hb_8.out)
      have LG_8 := hid (LG_7.out.step hb_8.out)
      have Lo_8 := hid (Lo_7.out.step hb_8.out)
      have Lw_8 := hid (Lw_7.out.step hb_8.out)
      have No_8 := hid (No_7.out.step hb_8.out)
      have Nw_8 := hid (Nw_7.out.step hb_8.out)
      have B_8 := hid (B_7.out.trans (hb_8.out.mono (by omega)))
      have z_8 : u7.heap.size ≤ u8.heap.size := hb_8.out.size
      clear KG_7 KS_7 Ko_7 Kw_7 LG_7 Lo_7 Lw_7 No_7 Nw_7 B_7
      clear hb_8
      clear hb
      obtain ⟨qG0, qG1, qG2, qG3⟩ := KG_8.out.four
      go_wp2_with fail
      refine (GroupValid_spec i k _ (LG_8.out.ow.rdg (by omega) (by omega))).mono ?_
      rw [hv.out]
      rintro e u9 ⟨rfl, hb⟩
      clear qG0 qG1 qG2 qG3
      have hb_9 := hid hb
      have KG_9 := hid (KG_8.out.step hb_9.out)
      have KS_9 := hid (KS_8.out.step hb_9.out)
      have Ko_9 := hid (Ko_8.out.step hb_9.out)
      have Kw_9 := hid (Kw_8.out.step hb_9.out)
      have LG_9 := hid (LG_8.out.step hb_9.out)
      have Lo_9 := hid (Lo_8.out.step hb_9.out)
      have Lw_9 := hid (Lw_8.out.step hb_9.out)
      have No_9 := hid (No_8.out.step hb_9.out)
      have Nw_9 := hid (Nw_8.out.step hb_9.out)
      have B_9 := hid (B_8.out.trans (hb_9.out.mono (by omega)))
      have z_9 : u8.heap.size ≤ u9.heap.size := hb_9.out.size
      clear KG_8 KS_8 Ko_8 Kw_8 LG_8 Lo_8 Lw_8 No_8 Nw_8 B_8
      clear hb_9
      clear hb
      go_wp2_with fail
      refine (sameInts_any _ No_9.out.at_ Nw_9.out.at_ (by omega) (by omega)).mono ?_
      rw [sameB_selfN]
      rintro e u10 ⟨rfl, hq⟩
      have hb_10 := hid (hq.below u9.heap.size)
      have KG_10 := hid (KG_9.out.step hb_10.out)
      have KS_10 := hid (KS_9.out.step hb_10.out)
      have Ko_10 := hid (Ko_9.out.step hb_10.out)
      have Kw_10 := hid (Kw_9.out.step hb_10.out)
      have LG_10 := hid (LG_9.out.step hb_10.out)
      have Lo_10 := hid (Lo_9.out.step hb_10.out)
      have Lw_10 := hid (Lw_9.out.step hb_10.out)
      have No_10 := hid (No_9.out.step hb_10.out)
      have Nw_10 := hid (Nw_9.out.step hb_10.out)
      have B_10 := hid (B_9.out.trans (hb_10.out.mono (by omega)))
      have z_10 : u9.heap.size ≤ u10.heap.size := hb_10.out.size
      clear KG_9 KS_9 Ko_9 Kw_9 LG_9 Lo_9 Lw_9 No_9 Nw_9 B_9
      clear hb_10
      clear hq
      obtain ⟨qo0, qo1, qo2, qo3⟩ := Ko_10.out.four
      obtain ⟨qw0, qw1, qw2, qw3⟩ := Kw_10.out.four
      go_wp2_with fail
      refine (sameGroup_same id' ck' _ Lo_10.out.r1 Lo_10.out.r2 Lw_10.out.r1 Lw_10.out.r2 (by omega) (by omega)).mono ?_
      rintro e u11 ⟨rfl, hb⟩
      clear qo0 qo1 qo2 qo3 qw0 qw1 qw2 qw3
      have hb_11 := hid hb
      have KG_11 := hid (KG_10.out.step hb_11.out)
      have KS_11 := hid (KS_10.out.step hb_11.out)
      have Ko_11 := hid (Ko_10.out.step hb_11.out)
      have Kw_11 := hid (Kw_10.out.step hb_11.out)
      have LG_11 := hid (LG_10.out.step hb_11.out)
      have Lo_11 := hid (Lo_10.out.step hb_11.out)
      have Lw_11 := hid (Lw_10.out.step hb_11.out)
      have No_11 := hid (No_10.out.step hb_11.out)
      have Nw_11 := hid (Nw_10.out.step hb_11.out)
      have B_11 := hid (B_10.out.trans (hb_11.out.mono (by omega)))
      have z_11 : u10.heap.size ≤ u11.heap.size := hb_11.out.size
      clear KG_10 KS_10 Ko_10 Kw_10 LG_10 Lo_10 Lw_10 No_10 Nw_10 B_10
      clear hb_11
      clear hb
      go_wp2
      go_ret
      exact ⟨rfl, B_11.out⟩
    | true =>
      have hv := hid hv
      by_cases hm0 : msg < 0
      · skip
        go_wp2_with fail
        refine (sameInts_any _ No_6.out.at_ Nw_6.out.at_ (by omega) (by omega)).mono ?_
        rw [sameB_selfN]
        rintro e u7 ⟨rfl, hq⟩
        have hb_7 := hid (hq.below u6.heap.size)
        have KG_7 := hid (KG_6.out.step hb_7.out)
        have KS_7 := hid (KS_6.out.step hb_7.out)
        have Ko_7 := hid (Ko_6.out.step hb_7.out)
        have Kw_7 := hid (Kw_6.out.step hb_7.out)
        have LG_7 := hid (LG_6.out.step hb_7.out)
        have Lo_7 := hid (Lo_6.out.step hb_7.out)
        have Lw_7 := hid (Lw_6.out.step hb_7.out)
        have No_7 := hid (No_6.out.step hb_7.out)
        have Nw_7 := hid (Nw_6.out.step hb_7.out)
        have B_7 := hid (B_6.out.trans (hb_7.out.mono (by omega)))
        have z_7 : u6.heap.size ≤ u7.heap.size := hb_7.out.size
        clear KG_6 KS_6 Ko_6 Kw_6 LG_6 Lo_6 Lw_6 No_6 Nw_6 B_6
        clear hb_7
        clear hq
        obtain ⟨qo0, qo1, qo2, qo3⟩ := Ko_7.out.four
        obtain ⟨qw0, qw1, qw2, qw3⟩ := Kw_7.out.four
        go_wp2_with fail
        refine (sameGroup_same id' ck' _ Lo_7.out.r1 Lo_7.out.r2 Lw_7.out.r1 Lw_7.out.r2 (by omega) (by omega)).mono ?_
        rintro e u8 ⟨rfl, hb⟩
        clear qo0 qo1 qo2 qo3 qw0 qw1 qw2 qw3
        have hb_8 := hid hb
        have KG_8 := hid (KG_7.out.step hb_8.out)
        have KS_8 := hid (KS_7.out.step hb_8.out)
        have Ko_8 := hid (Ko_7.out.step hb_8.out)
        have Kw_8 := hid (Kw_7.out.step hb_8.out)
        have LG_8 := hid (LG_7.out.step hb_8.out)
        have Lo_8 := hid (Lo_7.out.step hb_8.out)
        have Lw_8 := hid (Lw_7.out.step hb_8.out)
        have No_8 := hid (No_7.out.step hb_8.out)
        have Nw_8 := hid (Nw_7.out.step hb_8.out)
        have B_8 := hid (B_7.out.trans (hb_8.out.mono (by omega)))
        have z_8 : u7.heap.size ≤ u8.heap.size := hb_8.out.size
        clear KG_7 KS_7 Ko_7 Kw_7 LG_7 Lo_7 Lw_7 No_7 Nw_7 B_7
        clear hb_8
        clear hb
        obtain ⟨qG0, qG1, qG2, qG3⟩ := KG_8.out.four
        go_wp2_with fail
        refine (GroupValid_spec i k _ (LG_8.out.ow.rdg (by omega) (by omega))).mono ?_
        rw [hv.out]
        rintro e u9 ⟨rfl, hb⟩
        clear qG0 qG1 qG2 qG3
        have hb_9 := hid hb
        have KG_9 := hid (KG_8.out.step hb_9.out)
        have KS_9 := hid (KS_8.out.step hb_9.out)
        have Ko_9 := hid (Ko_8.out.step hb_9.out)
        have Kw_9 := hid (Kw_8.out.step hb_9.out)
        have LG_9 := hid (LG_8.out.step hb_9.out)
        have Lo_9 := hid (Lo_8.out.step hb_9.out)
        have Lw_9 := hid (Lw_8.out.step hb_9.out)
        have No_9 := hid (No_8.out.step hb_9.out)
        have Nw_9 := hid (Nw_8.out.step hb_9.out)
        have B_9 := hid (B_8.out.trans (hb_9.out.mono (by omega)))
        have z_9 : u8.heap.size ≤ u9.heap.size := hb_9.out.size
        clear KG_8 KS_8 Ko_8 Kw_8 LG_8 Lo_8 Lw_8 No_8 Nw_8 B_8
        clear hb_9
        clear hb
        go_wp2_with fail
        refine (sameInts_any _ No_9.out.at_ Nw_9.out.at_ (by omega) (by omega)).mono ?_
        rw [sameB_selfN]
        rintro e u10 ⟨rfl, hq⟩
        have hb_10 := hid (hq.below u9.heap.size)
        have KG_10 := hid (KG_9.out.step hb_10.out)
        have KS_10 := hid (KS_9.out.step hb_10.out)
        have Ko_10 := hid (Ko_9.out.step hb_10.out)
        have Kw_10 := hid (Kw_9.out.step hb_10.out)
        have LG_10 := hid (LG_9.out.step hb_10.out)
        have Lo_10 := hid (Lo_9.out.step hb_10.out)
        have Lw_10 := hid (Lw_9.out.step hb_10.out)
        have No_10 := hid (No_9.out.step hb_10.out)
        have Nw_10 := hid (Nw_9.out.step hb_10.out)
        have B_10 := hid (B_9.out.trans (hb_10.out.mono (by omega)))
        have z_10 : u9.heap.size ≤ u10.heap.size := hb_10.out.size
        clear KG_9 KS_9 Ko_9 Kw_9 LG_9 Lo_9 Lw_9 No_9 Nw_9 B_9
        clear hb_10
        clear hq
        obtain ⟨qo0, qo1, qo2, qo3⟩ := Ko_10.out.four
        obtain ⟨qw0, qw1, qw2, qw3⟩ := Kw_10.out.four
        go_wp2_with fail
        refine (sameGroup_same id' ck' _ Lo_10.out.r1 Lo_10.out.r2 Lw_10.out.r1 Lw_10.out.r2 (by omega) (by omega)).mono ?_
        rintro e u11 ⟨rfl, hb⟩
        clear qo0 qo1 qo2 qo3 qw0 qw1 qw2 qw3
        have hb_11 := hid hb
        have KG_11 := hid (KG_10.out.step hb_11.out)
        have KS_11 := hid (KS_10.out.step hb_11.out)
        have Ko_11 := hid (Ko_10.out.step hb_11.out)
        have Kw_11 := hid (Kw_10.out.step hb_11.out)
        have LG_11 := hid (LG_10.out.step hb_11.out)
        have Lo_11 := hid (Lo_10.out.step hb_11.out)
        have Lw_11 := hid (Lw_10.out.step hb_11.out)
        have No_11 := hid (No_10.out.step hb_11.out)
        have Nw_11 := hid (Nw_10.out.step hb_11.out)
        have B_11 := hid (B_10.out.trans (hb_11.out.mono (by omega)))
        have z_11 : u10.heap.size ≤ u11.heap.size := hb_11.out.size
        clear KG_10 KS_10 Ko_10 Kw_10 LG_10 Lo_10 Lw_10 No_10 Nw_10 B_10
        clear hb_11
        clear hb
        go_wp2
        go_ret
        exact ⟨rfl, B_11.out⟩
      · by_cases hm1 : 12 ≤ msg
        · skip
          go_wp2_with fail
          refine (sameInts_any _ No_6.out.at_ Nw_6.out.at_ (by omega) (by omega)).mono ?_
          rw [sameB_selfN]
          rintro e u7 ⟨rfl, hq⟩
          have hb_7 := hid (hq.below u6.heap.size)
          have KG_7 := hid (KG_6.out.step hb_7.out)
          have KS_7 := hid (KS_6.out.step hb_7.out)
          have Ko_7 := hid (Ko_6.out.step hb_7.out)
          have Kw_7 := hid (Kw_6.out.step hb_7.out)
          have LG_7 := hid (LG_6.out.step hb_7.out)
          have Lo_7 := hid (Lo_6.out.step hb_7.out)
          have Lw_7 := hid (Lw_6.out.step hb_7.out)
          have No_7 := hid (No_6.out.step hb_7.out)
          have Nw_7 := hid (Nw_6.out.step hb_7.out)
          have B_7 := hid (B_6.out.trans (hb_7.out.mono (by omega)))
          have z_7 : u6.heap.size ≤ u7.heap.size := hb_7.out.size
          clear KG_6 KS_6 Ko_6 Kw_6 LG_6 Lo_6 Lw_6 No_6 Nw_6 B_6
          clear hb_7
          clear hq
          obtain ⟨qo0, qo1, qo2, qo3⟩ := Ko_7.out.four
          obtain ⟨qw0, qw1, qw2, qw3⟩ := Kw_7.out.four
          go_wp2_with fail
          refine (sameGroup_same id' ck' _ Lo_7.out.r1 Lo_7.out.r2 Lw_7.out.r1 Lw_7.out.r2 (by omega) (by omega)).mono ?_
          rintro e u8 ⟨rfl, hb⟩
          clear qo0 qo1 qo2 qo3 qw0 qw1 qw2 qw3
          have hb_8 := hid hb
          have KG_8 := hid (KG_7.out.step hb_8.out)
          have KS_8 := hid (KS_7.out.step hb_8.out)
          have Ko_8 := hid (Ko_7.out.step hb_8.out)
          have Kw_8 := hid (Kw_7.out.step hb_8.out)
          have LG_8 := hid (LG_7.out.step hb_8.out)
          have Lo_8 := hid (Lo_7.out.step hb_8.out)
          have Lw_8 := hid (Lw_7.out.step hb_8.out)
          have No_8 := hid (No_7.out.step hb_8.out)
          have Nw_8 := hid (Nw_7.out.step hb_8.out)
          have B_8 := hid (B_7.out.trans (hb_8.out.mono (by omega)))
          have z_8 : u7.heap.size ≤ u8.heap.size := hb_8.out.size
          clear KG_7 KS_7 Ko_7 Kw_7 LG_7 Lo_7 Lw_7 No_7 Nw_7 B_7
          clear hb_8
          clear hb
          obtain ⟨qG0, qG1, qG2, qG3⟩ := KG_8.out.four
          go_wp2_with fail
          refine (GroupValid_spec i k _ (LG_8.out.ow.rdg (by omega) (by omega))).mono ?_
          rw [hv.out]
          rintro e u9 ⟨rfl, hb⟩
          clear qG0 qG1 qG2 qG3
          have hb_9 := hid hb
          have KG_9 := hid (KG_8.out.step hb_9.out)
          have KS_9 := hid (KS_8.out.step hb_9.out)
          have Ko_9 := hid (Ko_8.out.step hb_9.out)
          have Kw_9 := hid (Kw_8.out.step hb_9.out)
          have LG_9 := hid (LG_8.out.step hb_9.out)
          have Lo_9 := hid (Lo_8.out.step hb_9.out)
          have Lw_9 := hid (Lw_8.out.step hb_9.out)
          have No_9 := hid (No_8.out.step hb_9.out)
          have Nw_9 := hid (Nw_8.out.step hb_9.out)
          have B_9 := hid (B_8.out.trans (hb_9.out.mono (by omega)))
          have z_9 : u8.heap.size ≤ u9.heap.size := hb_9.out.size
          clear KG_8 KS_8 Ko_8 Kw_8 LG_8 Lo_8 Lw_8 No_8 Nw_8 B_8
          clear hb_9
          clear hb
          go_wp2_with fail
          refine (sameInts_any _ No_9.out.at_ Nw_9.out.at_ (by omega) (by omega)).mono ?_
          rw [sameB_selfN]
          rintro e u10 ⟨rfl, hq⟩
          have hb_10 := hid (hq.below u9.heap.size)
          have KG_10 := hid (KG_9.out.step hb_10.out)
          have KS_10 := hid (KS_9.out.step hb_10.out)
          have Ko_10 := hid (Ko_9.out.step hb_10.out)
          have Kw_10 := hid (Kw_9.out.step hb_10.out)
          have LG_10 := hid (LG_9.out.step hb_10.out)
          have Lo_10 := hid (Lo_9.out.step hb_10.out)
          have Lw_10 := hid (Lw_9.out.step hb_10.out)
          have No_10 := hid (No_9.out.step hb_10.out)
          have Nw_10 := hid (Nw_9.out.step hb_10.out)
          have B_10 := hid (B_9.out.trans (hb_10.out.mono (by omega)))
          have z_10 : u9.heap.size ≤ u10.heap.size := hb_10.out.size
          clear KG_9 KS_9 Ko_9 Kw_9 LG_9 Lo_9 Lw_9 No_9 Nw_9 B_9
          clear hb_10
          clear hq
          obtain ⟨qo0, qo1, qo2, qo3⟩ := Ko_10.out.four
          obtain ⟨qw0, qw1, qw2, qw3⟩ := Kw_10.out.four
          go_wp2_with fail
          refine (sameGroup_same id' ck' _ Lo_10.out.r1 Lo_10.out.r2 Lw_10.out.r1 Lw_10.out.r2 (by omega) (by omega)).mono ?_
          rintro e u11 ⟨rfl, hb⟩
          clear qo0 qo1 qo2 qo3 qw0 qw1 qw2 qw3
          have hb_11 := hid hb
          have KG_11 := hid (KG_10.out.step hb_11.out)
          have KS_11 := hid (KS_10.out.step hb_11.out)
          have Ko_11 := hid (Ko_10.out.step hb_11.out)
          have Kw_11 := hid (Kw_10.out.step hb_11.out)
          have LG_11 := hid (LG_10.out.step hb_11.out)
          have Lo_11 := hid (Lo_10.out.step hb_11.out)
          have Lw_11 := hid (Lw_10.out.step hb_11.out)
          have No_11 := hid (No_10.out.step hb_11.out)
          have Nw_11 := hid (Nw_10.out.step hb_11.out)
          have B_11 := hid (B_10.out.trans (hb_11.out.mono (by omega)))
          have z_11 : u10.heap.size ≤ u11.heap.size := hb_11.out.size
          clear KG_10 KS_10 Ko_10 Kw_10 LG_10 Lo_10 Lw_10 No_10 Nw_10 B_10
          clear hb_11
          clear hb
          go_wp2
          go_ret
          exact ⟨rfl, B_11.out⟩
        · have hm : msB msg = true := by unfold msB; simp [inB]; omega
          cases hs : stB st sg with
          | false =>
            have hs := hid hs
            go_wp2_with fail
            refine (sameInts_any _ No_6.out.at_ Nw_6.out.at_ (by omega) (by omega)).mono ?_
            rw [sameB_selfN]
            rintro e u7 ⟨rfl, hq⟩
            have hb_7 := hid (hq.below u6.heap.size)
            have KG_7 := hid (KG_6.out.step hb_7.out)
            have KS_7 := hid (KS_6.out.step hb_7.out)
            have Ko_7 := hid (Ko_6.out.step hb_7.out)
            have Kw_7 := hid (Kw_6.out.step hb_7.out)
            have LG_7 := hid (LG_6.out.step hb_7.out)
            have Lo_7 := hid (Lo_6.out.step hb_7.out)
            have Lw_7 := hid (Lw_6.out.step hb_7.out)
            have No_7 := hid (No_6.out.step hb_7.out)
            have Nw_7 := hid (Nw_6.out.step hb_7.out)
            have B_7 := hid (B_6.out.trans (hb_7.out.mono (by omega)))
            have z_7 : u6.heap.size ≤ u7.heap.size := hb_7.out.size
            clear KG_6 KS_6 Ko_6 Kw_6 LG_6 Lo_6 Lw_6 No_6 Nw_6 B_6
            clear hb_7
            clear hq
            obtain ⟨qo0, qo1, qo2, qo3⟩ := Ko_7.out.four
            obtain ⟨qw0, qw1, qw2, qw3⟩ := Kw_7.out.four
            go_wp2_with fail
            refine (sameGroup_same id' ck' _ Lo_7.out.r1 Lo_7.out.r2 Lw_7.out.r1 Lw_7.out.r2 (by omega) (by omega)).mono ?_
            rintro e u8 ⟨rfl, hb⟩
            clear qo0 qo1 qo2 qo3 qw0 qw1 qw2 qw3
            have hb_8 := hid hb
            have KG_8 := hid (KG_7.out.step hb_8.out)
            have KS_8 := hid (KS_7.out.step hb_8.out)
            have Ko_8 := hid (Ko_7.out.step hb_8.out)
            have Kw_8 := hid (Kw_7.out.step hb_8.out)
            have LG_8 := hid (LG_7.out.step hb_8.out)
            have Lo_8 := hid (Lo_7.out.step hb_8.out)
            have Lw_8 := hid (Lw_7.out.step hb_8.out)
            have No_8 := hid (No_7.out.step hb_8.out)
            have Nw_8 := hid (Nw_7.out.step hb_8.out)
            have B_8 := hid (B_7.out.trans (hb_8.out.mono (by omega)))
            have z_8 : u7.heap.size ≤ u8.heap.size := hb_8.out.size
            clear KG_7 KS_7 Ko_7 Kw_7 LG_7 Lo_7 Lw_7 No_7 Nw_7 B_7
            clear hb_8
            clear hb
            obtain ⟨qG0, qG1, qG2, qG3⟩ := KG_8.out.four
            go_wp2_with fail
            refine (GroupValid_spec i k _ (LG_8.out.ow.rdg (by omega) (by omega))).mono ?_
            rw [hv.out]
            rintro e u9 ⟨rfl, hb⟩
            clear qG0 qG1 qG2 qG3
            have hb_9 := hid hb
            have KG_9 := hid (KG_8.out.step hb_9.out)
            have KS_9 := hid (KS_8.out.step hb_9.out)
            have Ko_9 := hid (Ko_8.out.step hb_9.out)
            have Kw_9 := hid (Kw_8.out.step hb_9.out)
            have LG_9 := hid (LG_8.out.step hb_9.out)
            have Lo_9 := hid (Lo_8.out.step hb_9.out)
            have Lw_9 := hid (Lw_8.out.step hb_9.out)
            have No_9 := hid (No_8.out.step hb_9.out)
            have Nw_9 := hid (Nw_8.out.step hb_9.out)
            have B_9 := hid (B_8.out.trans (hb_9.out.mono (by omega)))
            have z_9 : u8.heap.size ≤ u9.heap.size := hb_9.out.size
            clear KG_8 KS_8 Ko_8 Kw_8 LG_8 Lo_8 Lw_8 No_8 Nw_8 B_8
            clear hb_9
            clear hb
            obtain ⟨qS0, qS1, -, -⟩ := KS_9.out.two
            go_wp2_with fail
            refine (StampValid_as hs.out _).mono ?_
            rintro e u10 ⟨rfl, hb⟩
            clear qS0 qS1
            have hb_10 := hid hb
            have KG_10 := hid (KG_9.out.step hb_10.out)
            have KS_10 := hid (KS_9.out.step hb_10.out)
            have Ko_10 := hid (Ko_9.out.step hb_10.out)
            have Kw_10 := hid (Kw_9.out.step hb_10.out)
            have LG_10 := hid (LG_9.out.step hb_10.out)
            have Lo_10 := hid (Lo_9.out.step hb_10.out)
            have Lw_10 := hid (Lw_9.out.step hb_10.out)
            have No_10 := hid (No_9.out.step hb_10.out)
            have Nw_10 := hid (Nw_9.out.step hb_10.out)
            have B_10 := hid (B_9.out.trans (hb_10.out.mono (by omega)))
            have z_10 : u9.heap.size ≤ u10.heap.size := hb_10.out.size
            clear KG_9 KS_9 Ko_9 Kw_9 LG_9 Lo_9 Lw_9 No_9 Nw_9 B_9
            clear hb_10
            clear hb
            go_wp2_with fail
            refine (sameInts_any _ No_10.out.at_ Nw_10.out.at_ (by omega) (by omega)).mono ?_
            rw [sameB_selfN]
            rintro e u11 ⟨rfl, hq⟩
            have hb_11 := hid (hq.below u10.heap.size)
            have KG_11 := hid (KG_10.out.step hb_11.out)
            have KS_11 := hid (KS_10.out.step hb_11.out)
            have Ko_11 := hid (Ko_10.out.step hb_11.out)
            have Kw_11 := hid (Kw_10.out.step hb_11.out)
            have LG_11 := hid (LG_10.out.step hb_11.out)
            have Lo_11 := hid (Lo_10.out.step hb_11.out)
            have Lw_11 := hid (Lw_10.out.step hb_11.out)
            have No_11 := hid (No_10.out.step hb_11.out)
            have Nw_11 := hid (Nw_10.out.step hb_11.out)
            have B_11 := hid (B_10.out.trans (hb_11.out.mono (by omega)))
            have z_11 : u10.heap.size ≤ u11.heap.size := hb_11.out.size
            clear KG_10 KS_10 Ko_10 Kw_10 LG_10 Lo_10 Lw_10 No_10 Nw_10 B_10
            clear hb_11
            clear hq
            obtain ⟨qo0, qo1, qo2, qo3⟩ := Ko_11.out.four
            obtain ⟨qw0, qw1, qw2, qw3⟩ := Kw_11.out.four
            go_wp2_with fail
            refine (sameGroup_same id' ck' _ Lo_11.out.r1 Lo_11.out.r2 Lw_11.out.r1 Lw_11.out.r2 (by omega) (by omega)).mono ?_
            rintro e u12 ⟨rfl, hb⟩
            clear qo0 qo1 qo2 qo3 qw0 qw1 qw2 qw3
            have hb_12 := hid hb
            have KG_12 := hid (KG_11.out.step hb_12.out)
            have KS_12 := hid (KS_11.out.step hb_12.out)
            have Ko_12 := hid (Ko_11.out.step hb_12.out)
            have Kw_12 := hid (Kw_11.out.step hb_12.out)
            have LG_12 := hid (LG_11.out.step hb_12.out)
            have Lo_12 := hid (Lo_11.out.step hb_12.out)
            have Lw_12 := hid (Lw_11.out.step hb_12.out)
            have No_12 := hid (No_11.out.step hb_12.out)
            have Nw_12 := hid (Nw_11.out.step hb_12.out)
            have B_12 := hid (B_11.out.trans (hb_12.out.mono (by omega)))
            have z_12 : u11.heap.size ≤ u12.heap.size := hb_12.out.size
            clear KG_11 KS_11 Ko_11 Kw_11 LG_11 Lo_11 Lw_11 No_11 Nw_11 B_11
            clear hb_12
            clear hb
            go_wp2
            go_ret
            exact ⟨rfl, B_12.out⟩
          | true =>
            obtain ⟨em, et, ek, ef, kn, hS⟩ : ∃ em et ek ef kn, stR ⟨i, k, P, D⟩ msg = ((em, (et, ek), ef), kn) := ⟨_, _, _, _, _, rfl⟩
            obtain ⟨hb, hg⟩ := fr_all hR.out hv.out hm hs hS
            simp only at hb
            replace hb := hid hb
            replace hg := hid hg
            replace hs := hid hs
            replace hS := hid hS
            go_wp2_with fail
            refine (sameInts_any _ No_6.out.at_ Nw_6.out.at_ (by omega) (by omega)).mono ?_
            rw [sameB_selfN]
            rintro e u7 ⟨rfl, hq⟩
            have hb_7 := hid (hq.below u6.heap.size)
            have KG_7 := hid (KG_6.out.step hb_7.out)
            have KS_7 := hid (KS_6.out.step hb_7.out)
            have Ko_7 := hid (Ko_6.out.step hb_7.out)
            have Kw_7 := hid (Kw_6.out.step hb_7.out)
            have LG_7 := hid (LG_6.out.step hb_7.out)
            have Lo_7 := hid (Lo_6.out.step hb_7.out)
            have Lw_7 := hid (Lw_6.out.step hb_7.out)
            have No_7 := hid (No_6.out.step hb_7.out)
            have Nw_7 := hid (Nw_6.out.step hb_7.out)
            have B_7 := hid (B_6.out.trans (hb_7.out.mono (by omega)))
            have z_7 : u6.heap.size ≤ u7.heap.size := hb_7.out.size
            clear KG_6 KS_6 Ko_6 Kw_6 LG_6 Lo_6 Lw_6 No_6 Nw_6 B_6
            clear hb_7
            clear hq
            obtain ⟨qo0, qo1, qo2, qo3⟩ := Ko_7.out.four
            obtain ⟨qw0, qw1, qw2, qw3⟩ := Kw_7.out.four
            go_wp2_with fail
            refine (sameGroup_same id' ck' _ Lo_7.out.r1 Lo_7.out.r2 Lw_7.out.r1 Lw_7.out.r2 (by omega) (by omega)).mono ?_
            rintro e u8 ⟨rfl, hb⟩
            clear qo0 qo1 qo2 qo3 qw0 qw1 qw2 qw3
            have hb_8 := hid hb
            have KG_8 := hid (KG_7.out.step hb_8.out)
            have KS_8 := hid (KS_7.out.step hb_8.out)
            have Ko_8 := hid (Ko_7.out.step hb_8.out)
            have Kw_8 := hid (Kw_7.out.step hb_8.out)
            have LG_8 := hid (LG_7.out.step hb_8.out)
            have Lo_8 := hid (Lo_7.out.step hb_8.out)
            have Lw_8 := hid (Lw_7.out.step hb_8.out)
            have No_8 := hid (No_7.out.step hb_8.out)
            have Nw_8 := hid (Nw_7.out.step hb_8.out)
            have B_8 := hid (B_7.out.trans (hb_8.out.mono (by omega)))
            have z_8 : u7.heap.size ≤ u8.heap.size := hb_8.out.size
            clear KG_7 KS_7 Ko_7 Kw_7 LG_7 Lo_7 Lw_7 No_7 Nw_7 B_7
            clear hb_8
            clear hb
            obtain ⟨qG0, qG1, qG2, qG3⟩ := KG_8.out.four
            go_wp2_with fail
            refine (GroupValid_spec i k _ (LG_8.out.ow.rdg (by omega) (by omega))).mono ?_
            rw [hv.out]
            rintro e u9 ⟨rfl, hb⟩
            clear qG0 qG1 qG2 qG3
            have hb_9 := hid hb
            have KG_9 := hid (KG_8.out.step hb_9.out)
            have KS_9 := hid (KS_8.out.step hb_9.out)
            have Ko_9 := hid (Ko_8.out.step hb_9.out)
            have Kw_9 := hid (Kw_8.out.step hb_9.out)
            have LG_9 := hid (LG_8.out.step hb_9.out)
            have Lo_9 := hid (Lo_8.out.step hb_9.out)
            have Lw_9 := hid (Lw_8.out.step hb_9.out)
            have No_9 := hid (No_8.out.step hb_9.out)
            have Nw_9 := hid (Nw_8.out.step hb_9.out)
            have B_9 := hid (B_8.out.trans (hb_9.out.mono (by omega)))
            have z_9 : u8.heap.size ≤ u9.heap.size := hb_9.out.size
            clear KG_8 KS_8 Ko_8 Kw_8 LG_8 Lo_8 Lw_8 No_8 Nw_8 B_8
            clear hb_9
            clear hb
            obtain ⟨qS0, qS1, -, -⟩ := KS_9.out.two
            go_wp2_with fail
            refine (StampValid_as hs.out _).mono ?_
            rintro e u10 ⟨rfl, hb⟩
            clear qS0 qS1
            have hb_10 := hid hb
            have KG_10 := hid (KG_9.out.step hb_10.out)
            have KS_10 := hid (KS_9.out.step hb_10.out)
            have Ko_10 := hid (Ko_9.out.step hb_10.out)
            have Kw_10 := hid (Kw_9.out.step hb_10.out)
            have LG_10 := hid (LG_9.out.step hb_10.out)
            have Lo_10 := hid (Lo_9.out.step hb_10.out)
            have Lw_10 := hid (Lw_9.out.step hb_10.out)
            have No_10 := hid (No_9.out.step hb_10.out)
            have Nw_10 := hid (Nw_9.out.step hb_10.out)
            have B_10 := hid (B_9.out.trans (hb_10.out.mono (by omega)))
            have z_10 : u9.heap.size ≤ u10.heap.size := hb_10.out.size
            clear KG_9 KS_9 Ko_9 Kw_9 LG_9 Lo_9 Lw_9 No_9 Nw_9 B_9
            clear hb_10
            clear hb
            clear Kw_10
            clear Lw_10
            clear Nw_10
            clear No_10
            obtain ⟨qG0, qG1, qG2, qG3⟩ := KG_10.out.four
            go_wp2_with fail
            refine (GroupStamp_impl hS.out _ (LG_10.out.ow.rdg (by omega) (by omega))).mono ?_
            rintro e u11 ⟨rfl, hb⟩
            clear qG0 qG1 qG2 qG3
            have hb_11 := hid hb
            have KG_11 := hid (KG_10.out.step hb_11.out)
            have KS_11 := hid (KS_10.out.step hb_11.out)
            have Ko_11 := hid (Ko_10.out.step hb_11.out)
            have LG_11 := hid (LG_10.out.step hb_11.out)
            have Lo_11 := hid (Lo_10.out.step hb_11.out)
            have B_11 := hid (B_10.out.trans (hb_11.out.mono (by omega)))
            have z_11 : u10.heap.size ≤ u11.heap.size := hb_11.out.size
            clear KG_10 KS_10 Ko_10 LG_10 Lo_10 B_10
            clear hb_11
            clear hb
            go_upto_region 9 with (fail)
            obtain ⟨u12, hu⟩ : ∃ W, (u11.alloc (.cells #[.int .i64 em, .int .i64 et, .int .i64 ek, .bool ef] 31)) = W := ⟨_, rfl⟩
            rw [hu]
            have hb : Below u11.heap.size u11 u12 := by rw [← hu]; exact below1 _ _
            have hce : Cs u12 (u11.heap.size) 31 #[.int .i64 em, .int .i64 et, .int .i64 ek, .bool ef] := by rw [← hu]; exact Cs.new _ _ _
            clear hu
            have hb_12 := hid hb
            have KG_12 := hid (KG_11.out.step hb_12.out)
            have KS_12 := hid (KS_11.out.step hb_12.out)
            have Ko_12 := hid (Ko_11.out.step hb_12.out)
            have LG_12 := hid (LG_11.out.step hb_12.out)
            have Lo_12 := hid (Lo_11.out.step hb_12.out)
            have B_12 := hid (B_11.out.trans (hb_12.out.mono (by omega)))
            have z_12 : u11.heap.size ≤ u12.heap.size := hb_12.out.size
            clear KG_11 KS_11 Ko_11 LG_11 Lo_11 B_11
            clear hb_12
            clear hb
            have Ke_12 := hid hce
            have ye_12 : u11.heap.size < u12.heap.size := hce.lt
            clear hce
            cases kn with
            | false =>
              have hb' : b' = !(true || anyS P msg (st, sg)) := by rw [hb.out]; rfl
              clear hb
              replace hb' := hid hb'
              obtain ⟨qe0, qe1, qe2, qe3⟩ := Ke_12.out.four
              obtain ⟨qS0, qS1, -, -⟩ := KS_12.out.two
              go_wp2_with fail
              go_loopw [14, 15] (fun f v wr => ∃ j : Nat, j ≤ P.length ∧ v = .int .i64 j ∧ f = .bool (true || anyS (P.take j) msg (st, sg)) ∧ Hid (Below u12.heap.size u12 wr)) (fun _ v _ => P.length - (intOf v).toNat)
              case atStart => exact ⟨0, by omega, rfl, by simp [anyS], hid (Below.refl _ _)⟩
              case round =>
                obtain ⟨j, hj, rfl, rfl, hB⟩ := hrel
                have hsz := hB.out.size
                have KG_r := hid (KG_12.out.step hB.out)
                have KS_r := hid (KS_12.out.step hB.out)
                have Ko_r := hid (Ko_12.out.step hB.out)
                have Ke_r := hid (Ke_12.out.step hB.out)
                have LG_r := hid (LG_12.out.step hB.out)
                have Lo_r := hid (Lo_12.out.step hB.out)
                obtain ⟨y0, y1, y2, y3⟩ := KG_r.out.four
                obtain ⟨s0, s1, -, -⟩ := KS_r.out.two
                by_cases hlt : j < P.length
                · obtain ⟨b, off, m, t, g, f, rfl, hx, hb, v0, v1, v2, v3⟩ := LG_r.out.r1.at_ hlt
                  have i0 : (0 : Int) ≤ (j : Int) := by omega
                  have i1 : (j : Int) < (P.length : Int) := by omega
                  have htk := anyS_snoc hx.out msg (st, sg)
                  simp only at htk
                  have G3 : ∀ x : BW wr, x.wd.cell? ⟨u1.heap.size, 2, none⟩ = some (.slice (some ⟨b, off, none⟩) P.length c0) := fun x => x.cell y2
                  have S0 : ∀ x : BW wr, x.wd.cell? ⟨u1.heap.size + 1, 0, none⟩ = some (.int .i64 st) := fun x => x.cell s0
                  have S1 : ∀ x : BW wr, x.wd.cell? ⟨u1.heap.size + 1, 1, none⟩ = some (.int .i64 sg) := fun x => x.cell s1
                  have C0 : ∀ x : BW wr, x.wd.cell? ⟨b, off + j * 4, none⟩ = some (.int .i64 m) := fun x => x.cell v0
                  have C1 : ∀ x : BW wr, x.wd.cell? ⟨b, off + j * 4 + 1, none⟩ = some (.int .i64 t) := fun x => x.cell v1
                  have C2 : ∀ x : BW wr, x.wd.cell? ⟨b, off + j * 4 + 2, none⟩ = some (.int .i64 g) := fun x => x.cell v2
                  clear v0 v1 v2 v3 hx
                  obtain ⟨fd, hfd⟩ : ∃ fd, (true || anyS (P.take j) msg (st, sg)) = fd := ⟨_, rfl⟩
                  rw [hfd]
                  have hnx : (true || anyS (P.take (j + 1)) msg (st, sg)) = (fd || (m != msg && (t == st && g == sg))) := by rw [htk, ← hfd, Bool.or_assoc]
                  replace hnx := hid hnx
                  clear hfd htk
                  cases fd with
                  | true =>
                    go_wp2_with fail
                    clear y0 y1 y2 y3 s0 s1
                    refine wp_region_below (by kernel_rfl) (by kernel_rfl) ?_
                    repeat (go_big_quiet_step (fail))
                    refine wpQuiet_nil ?_
                    intro w1 hb1
                    have B5 := hid (hB.out.trans (hb1.mono hsz))
                    clear hb1
                    go_wp2
                    go_roundw
                    case rel => exact ⟨j + 1, by omega, by go_num, by rw [hnx.out]; rfl, B5⟩
                    case measure => simp [intOf]; omega
                  | false =>
                    by_cases hmm : m = msg
                    · have e9 : (m == msg) = true := by simp [hmm]
                      have e8 : (m != msg) = false := by simp [hmm]
                      replace hmm := hid hmm
                      go_wp2_with fail
                      clear y0 y1 y2 y3 s0 s1
                      refine wp_region_below (by kernel_rfl) (by kernel_rfl) ?_
                      repeat (go_big_quiet_step (fail))
                      refine wpQuiet_nil ?_
                      intro w1 hb1
                      have B5 := hid (hB.out.trans (hb1.mono hsz))
                      clear hb1
                      go_wp2
                      go_roundw
                      case rel => exact ⟨j + 1, by omega, by go_num, by rw [hnx.out]; rw [e8]; rfl, B5⟩
                      case measure => simp [intOf]; omega
                    · have e9 : (m == msg) = false := by simp [hmm]
                      have e8 : (m != msg) = true := by simp [hmm]
                      clear hmm
                      by_cases ht : t = st
                      · subst ht
                        have e7 : (t == t) = true := by simp
                        by_cases hgg : g = sg
                        · subst hgg
                          have e6 : (g == g) = true := by simp
                          go_wp2_with fail
                          clear y0 y1 y2 y3 s0 s1
                          refine wp_region_below (by kernel_rfl) (by kernel_rfl) ?_
                          repeat (go_big_quiet_step (fail))
                          refine wpQuiet_nil ?_
                          intro w1 hb1
                          have B5 := hid (hB.out.trans (hb1.mono hsz))
                          clear hb1
                          go_wp2
                          go_roundw
                          case rel => exact ⟨j + 1, by omega, by go_num, by rw [hnx.out]; rw [e8, e7, e6]; rfl, B5⟩
                          case measure => simp [intOf]; omega
                        · have e6 : (g == sg) = false := by simp [hgg]
                          clear hgg
                          go_wp2_with fail
                          clear y0 y1 y2 y3 s0 s1
                          refine wp_region_below (by kernel_rfl) (by kernel_rfl) ?_
                          repeat (go_big_quiet_step (fail))
                          refine wpQuiet_nil ?_
                          intro w1 hb1
                          have B5 := hid (hB.out.trans (hb1.mono hsz))
                          clear hb1
                          go_wp2
                          go_roundw
                          case rel => exact ⟨j + 1, by omega, by go_num, by rw [hnx.out]; rw [e8, e7, e6]; rfl, B5⟩
                          case measure => simp [intOf]; omega
                      · have e7 : (t == st) = false := by simp [ht]
                        clear ht
                        go_wp2_with fail
                        clear y0 y1 y2 y3 s0 s1
                        refine wp_region_below (by kernel_rfl) (by kernel_rfl) ?_
                        repeat (go_big_quiet_step (fail))
                        refine wpQuiet_nil ?_
                        intro w1 hb1
                        have B5 := hid (hB.out.trans (hb1.mono hsz))
                        clear hb1
                        go_wp2
                        go_roundw
                        case rel => exact ⟨j + 1, by omega, by go_num, by rw [hnx.out]; rw [e8, e7]; rfl, B5⟩
                        case measure => simp [intOf]; omega
                · have hje : j = P.length := by omega
                  subst hje
                  rw [List.take_length]
                  obtain ⟨bd, hbd⟩ : ∃ bd, (true || anyS P msg (st, sg)) = bd := ⟨_, rfl⟩
                  rw [hbd]
                  have hb2 := hb'.out
                  rw [hbd] at hb2
                  clear hbd hb'
                  cases b' with
                  | true =>
                    obtain rfl : bd = false := by simpa using hb2.symm
                    clear hb2 hg
                    go_wp2
                    go_ret
                    exact ⟨rfl, B_12.out.trans (hB.out.mono (by omega))⟩
                  | false =>
                    obtain rfl : bd = true := by simpa using hb2.symm
                    have hg := hg.out rfl
                    clear hb2
                    simp only [Gp.mk.injEq] at hg
                    obtain ⟨g1, g2, g3, g4⟩ := hg
                    have g1 := g1.symm
                    have g2 := g2.symm
                    have g3 := g3.symm
                    have g4 := g4.symm
                    subst g1 g2 g3 g4
                    obtain ⟨o0, o1, o2, o3⟩ := Ko_r.out.four
                    go_wp2_with fail
                    refine (sameGroup_same i k _ Lo_r.out.r1 Lo_r.out.r2 LG_r.out.r1 LG_r.out.r2 (by omega) (by omega)).mono ?_
                    rintro e w9 ⟨rfl, hb9⟩
                    go_wp2
                    go_ret
                    exact ⟨rfl, B_12.out.trans ((hB.out.trans (hb9.mono hsz)).mono (by omega))⟩
            | true =>
              cases ef with
              | true =>
                have hb' : b' = !(true || anyS P msg (st, sg)) := by rw [hb.out]; rfl
                clear hb
                replace hb' := hid hb'
                obtain ⟨qe0, qe1, qe2, qe3⟩ := Ke_12.out.four
                obtain ⟨qS0, qS1, -, -⟩ := KS_12.out.two
                go_wp2_with fail
                go_loopw [14, 15] (fun f v wr => ∃ j : Nat, j ≤ P.length ∧ v = .int .i64 j ∧ f = .bool (true || anyS (P.take j) msg (st, sg)) ∧ Hid (Below u12.heap.size u12 wr)) (fun _ v _ => P.length - (intOf v).toNat)
                case atStart => exact ⟨0, by omega, rfl, by simp [anyS], hid (Below.refl _ _)⟩
                case round =>
                  obtain ⟨j, hj, rfl, rfl, hB⟩ := hrel
                  have hsz := hB.out.size
                  have KG_r := hid (KG_12.out.step hB.out)
                  have KS_r := hid (KS_12.out.step hB.out)
                  have Ko_r := hid (Ko_12.out.step hB.out)
                  have Ke_r := hid (Ke_12.out.step hB.out)
                  have LG_r := hid (LG_12.out.step hB.out)
                  have Lo_r := hid (Lo_12.out.step hB.out)
                  obtain ⟨y0, y1, y2, y3⟩ := KG_r.out.four
                  obtain ⟨s0, s1, -, -⟩ := KS_r.out.two
                  by_cases hlt : j < P.length
                  · obtain ⟨b, off, m, t, g, f, rfl, hx, hb, v0, v1, v2, v3⟩ := LG_r.out.r1.at_ hlt
                    have i0 : (0 : Int) ≤ (j : Int) := by omega
                    have i1 : (j : Int) < (P.length : Int) := by omega
                    have htk := anyS_snoc hx.out msg (st, sg)
                    simp only at htk
                    have G3 : ∀ x : BW wr, x.wd.cell? ⟨u1.heap.size, 2, none⟩ = some (.slice (some ⟨b, off, none⟩) P.length c0) := fun x => x.cell y2
                    have S0 : ∀ x : BW wr, x.wd.cell? ⟨u1.heap.size + 1, 0, none⟩ = some (.int .i64 st) := fun x => x.cell s0
                    have S1 : ∀ x : BW wr, x.wd.cell? ⟨u1.heap.size + 1, 1, none⟩ = some (.int .i64 sg) := fun x => x.cell s1
                    have C0 : ∀ x : BW wr, x.wd.cell? ⟨b, off + j * 4, none⟩ = some (.int .i64 m) := fun x => x.cell v0
                    have C1 : ∀ x : BW wr, x.wd.cell? ⟨b, off + j * 4 + 1, none⟩ = some (.int .i64 t) := fun x => x.cell v1
                    have C2 : ∀ x : BW wr, x.wd.cell? ⟨b, off + j * 4 + 2, none⟩ = some (.int .i64 g) := fun x => x.cell v2
                    clear v0 v1 v2 v3 hx
                    obtain ⟨fd, hfd⟩ : ∃ fd, (true || anyS (P.take j) msg (st, sg)) = fd := ⟨_, rfl⟩
                    rw [hfd]
                    have hnx : (true || anyS (P.take (j + 1)) msg (st, sg)) = (fd || (m != msg && (t == st && g == sg))) := by rw [htk, ← hfd, Bool.or_assoc]
                    replace hnx := hid hnx
                    clear hfd htk
                    cases fd with
                    | true =>
                      go_wp2_with fail
                      clear y0 y1 y2 y3 s0 s1
                      refine wp_region_below (by kernel_rfl) (by kernel_rfl) ?_
                      repeat (go_big_quiet_step (fail))
                      refine wpQuiet_nil ?_
                      intro w1 hb1
                      have B5 := hid (hB.out.trans (hb1.mono hsz))
                      clear hb1
                      go_wp2
                      go_roundw
                      case rel => exact ⟨j + 1, by omega, by go_num, by rw [hnx.out]; rfl, B5⟩
                      case measure => simp [intOf]; omega
                    | false =>
                      by_cases hmm : m = msg
                      · have e9 : (m == msg) = true := by simp [hmm]
                        have e8 : (m != msg) = false := by simp [hmm]
                        replace hmm := hid hmm
                        go_wp2_with fail
                        clear y0 y1 y2 y3 s0 s1
                        refine wp_region_below (by kernel_rfl) (by kernel_rfl) ?_
                        repeat (go_big_quiet_step (fail))
                        refine wpQuiet_nil ?_
                        intro w1 hb1
                        have B5 := hid (hB.out.trans (hb1.mono hsz))
                        clear hb1
                        go_wp2
                        go_roundw
                        case rel => exact ⟨j + 1, by omega, by go_num, by rw [hnx.out]; rw [e8]; rfl, B5⟩
                        case measure => simp [intOf]; omega
                      · have e9 : (m == msg) = false := by simp [hmm]
                        have e8 : (m != msg) = true := by simp [hmm]
                        clear hmm
                        by_cases ht : t = st
                        · subst ht
                          have e7 : (t == t) = true := by simp
                          by_cases hgg : g = sg
                          · subst hgg
                            have e6 : (g == g) = true := by simp
                            go_wp2_with fail
                            clear y0 y1 y2 y3 s0 s1
                            refine wp_region_below (by kernel_rfl) (by kernel_rfl) ?_
                            repeat (go_big_quiet_step (fail))
                            refine wpQuiet_nil ?_
                            intro w1 hb1
                            have B5 := hid (hB.out.trans (hb1.mono hsz))
                            clear hb1
                            go_wp2
                            go_roundw
                            case rel => exact ⟨j + 1, by omega, by go_num, by rw [hnx.out]; rw [e8, e7, e6]; rfl, B5⟩
                            case measure => simp [intOf]; omega
                          · have e6 : (g == sg) = false := by simp [hgg]
                            clear hgg
                            go_wp2_with fail
                            clear y0 y1 y2 y3 s0 s1
                            refine wp_region_below (by kernel_rfl) (by kernel_rfl) ?_
                            repeat (go_big_quiet_step (fail))
                            refine wpQuiet_nil ?_
                            intro w1 hb1
                            have B5 := hid (hB.out.trans (hb1.mono hsz))
                            clear hb1
                            go_wp2
                            go_roundw
                            case rel => exact ⟨j + 1, by omega, by go_num, by rw [hnx.out]; rw [e8, e7, e6]; rfl, B5⟩
                            case measure => simp [intOf]; omega
                        · have e7 : (t == st) = false := by simp [ht]
                          clear ht
                          go_wp2_with fail
                          clear y0 y1 y2 y3 s0 s1
                          refine wp_region_below (by kernel_rfl) (by kernel_rfl) ?_
                          repeat (go_big_quiet_step (fail))
                          refine wpQuiet_nil ?_
                          intro w1 hb1
                          have B5 := hid (hB.out.trans (hb1.mono hsz))
                          clear hb1
                          go_wp2
                          go_roundw
                          case rel => exact ⟨j + 1, by omega, by go_num, by rw [hnx.out]; rw [e8, e7]; rfl, B5⟩
                          case measure => simp [intOf]; omega
                  · have hje : j = P.length := by omega
                    subst hje
                    rw [List.take_length]
                    obtain ⟨bd, hbd⟩ : ∃ bd, (true || anyS P msg (st, sg)) = bd := ⟨_, rfl⟩
                    rw [hbd]
                    have hb2 := hb'.out
                    rw [hbd] at hb2
                    clear hbd hb'
                    cases b' with
                    | true =>
                      obtain rfl : bd = false := by simpa using hb2.symm
                      clear hb2 hg
                      go_wp2
                      go_ret
                      exact ⟨rfl, B_12.out.trans (hB.out.mono (by omega))⟩
                    | false =>
                      obtain rfl : bd = true := by simpa using hb2.symm
                      have hg := hg.out rfl
                      clear hb2
                      simp only [Gp.mk.injEq] at hg
                      obtain ⟨g1, g2, g3, g4⟩ := hg
                      have g1 := g1.symm
                      have g2 := g2.symm
                      have g3 := g3.symm
                      have g4 := g4.symm
                      subst g1 g2 g3 g4
                      obtain ⟨o0, o1, o2, o3⟩ := Ko_r.out.four
                      go_wp2_with fail
                      refine (sameGroup_same i k _ Lo_r.out.r1 Lo_r.out.r2 LG_r.out.r1 LG_r.out.r2 (by omega) (by omega)).mono ?_
                      rintro e w9 ⟨rfl, hb9⟩
                      go_wp2
                      go_ret
                      exact ⟨rfl, B_12.out.trans ((hB.out.trans (hb9.mono hsz)).mono (by omega))⟩
              | false =>
                obtain ⟨rr, hrr⟩ : ∃ rr, stL st sg et ek = rr := ⟨_, rfl⟩
                have hb' : b' = !(rr || anyS P msg (st, sg)) := by rw [hb.out, ← hrr]; rfl
                clear hb
                replace hb' := hid hb'
                replace hrr := hid hrr
                obtain ⟨qe0, qe1, qe2, qe3⟩ := Ke_12.out.four
                obtain ⟨qS0, qS1, -, -⟩ := KS_12.out.two
                go_wp2_with fail
                refine (StampLess_asR hrr.out _).mono ?_
                rintro e u13 ⟨rfl, hb⟩
                clear qe0 qe1 qe2 qe3 qS0 qS1
                have hb_13 := hid hb
                have KG_13 := hid (KG_12.out.step hb_13.out)
                have KS_13 := hid (KS_12.out.step hb_13.out)
                have Ko_13 := hid (Ko_12.out.step hb_13.out)
                have Ke_13 := hid (Ke_12.out.step hb_13.out)
                have LG_13 := hid (LG_12.out.step hb_13.out)
                have Lo_13 := hid (Lo_12.out.step hb_13.out)
                have B_13 := hid (B_12.out.trans (hb_13.out.mono (by omega)))
                have z_13 : u12.heap.size ≤ u13.heap.size := hb_13.out.size
                clear KG_12 KS_12 Ko_12 Ke_12 LG_12 Lo_12 B_12
                clear hb_13
                clear hb
                go_wp2_with fail
                go_loopw [14, 15] (fun f v wr => ∃ j : Nat, j ≤ P.length ∧ v = .int .i64 j ∧ f = .bool (rr || anyS (P.take j) msg (st, sg)) ∧ Hid (Below u13.heap.size u13 wr)) (fun _ v _ => P.length - (intOf v).toNat)
                case atStart => exact ⟨0, by omega, rfl, by simp [anyS], hid (Below.refl _ _)⟩
                case round =>
                  obtain ⟨j, hj, rfl, rfl, hB⟩ := hrel
                  have hsz := hB.out.size
                  have KG_r := hid (KG_13.out.step hB.out)
                  have KS_r := hid (KS_13.out.step hB.out)
                  have Ko_r := hid (Ko_13.out.step hB.out)
                  have Ke_r := hid (Ke_13.out.step hB.out)
                  have LG_r := hid (LG_13.out.step hB.out)
                  have Lo_r := hid (Lo_13.out.step hB.out)
                  obtain ⟨y0, y1, y2, y3⟩ := KG_r.out.four
                  obtain ⟨s0, s1, -, -⟩ := KS_r.out.two
                  by_cases hlt : j < P.length
                  · obtain ⟨b, off, m, t, g, f, rfl, hx, hb, v0, v1, v2, v3⟩ := LG_r.out.r1.at_ hlt
                    have i0 : (0 : Int) ≤ (j : Int) := by omega
                    have i1 : (j : Int) < (P.length : Int) := by omega
                    have htk := anyS_snoc hx.out msg (st, sg)
                    simp only at htk
                    have G3 : ∀ x : BW wr, x.wd.cell? ⟨u1.heap.size, 2, none⟩ = some (.slice (some ⟨b, off, none⟩) P.length c0) := fun x => x.cell y2
                    have S0 : ∀ x : BW wr, x.wd.cell? ⟨u1.heap.size + 1, 0, none⟩ = some (.int .i64 st) := fun x => x.cell s0
                    have S1 : ∀ x : BW wr, x.wd.cell? ⟨u1.heap.size + 1, 1, none⟩ = some (.int .i64 sg) := fun x => x.cell s1
                    have C0 : ∀ x : BW wr, x.wd.cell? ⟨b, off + j * 4, none⟩ = some (.int .i64 m) := fun x => x.cell v0
                    have C1 : ∀ x : BW wr, x.wd.cell? ⟨b, off + j * 4 + 1, none⟩ = some (.int .i64 t) := fun x => x.cell v1
                    have C2 : ∀ x : BW wr, x.wd.cell? ⟨b, off + j * 4 + 2, none⟩ = some (.int .i64 g) := fun x => x.cell v2
                    clear v0 v1 v2 v3 hx
                    obtain ⟨fd, hfd⟩ : ∃ fd, (rr || anyS (P.take j) msg (st, sg)) = fd := ⟨_, rfl⟩
                    rw [hfd]
                    have hnx : (rr || anyS (P.take (j + 1)) msg (st, sg)) = (fd || (m != msg && (t == st && g == sg))) := by rw [htk, ← hfd, Bool.or_assoc]
                    replace hnx := hid hnx
                    clear hfd htk
                    cases fd with
                    | true =>
                      go_wp2_with fail
                      clear y0 y1 y2 y3 s0 s1
                      refine wp_region_below (by kernel_rfl) (by kernel_rfl) ?_
                      repeat (go_big_quiet_step (fail))
                      refine wpQuiet_nil ?_
                      intro w1 hb1
                      have B5 := hid (hB.out.trans (hb1.mono hsz))
                      clear hb1
                      go_wp2
                      go_roundw
                      case rel => exact ⟨j + 1, by omega, by go_num, by rw [hnx.out]; rfl, B5⟩
                      case measure => simp [intOf]; omega
                    | false =>
                      by_cases hmm : m = msg
                      · have e9 : (m == msg) = true := by simp [hmm]
                        have e8 : (m != msg) = false := by simp [hmm]
                        replace hmm := hid hmm
                        go_wp2_with fail
                        clear y0 y1 y2 y3 s0 s1
                        refine wp_region_below (by kernel_rfl) (by kernel_rfl) ?_
                        repeat (go_big_quiet_step (fail))
                        refine wpQuiet_nil ?_
                        intro w1 hb1
                        have B5 := hid (hB.out.trans (hb1.mono hsz))
                        clear hb1
                        go_wp2
                        go_roundw
                        case rel => exact ⟨j + 1, by omega, by go_num, by rw [hnx.out]; rw [e8]; rfl, B5⟩
                        case measure => simp [intOf]; omega
                      · have e9 : (m == msg) = false := by simp [hmm]
                        have e8 : (m != msg) = true := by simp [hmm]
                        clear hmm
                        by_cases ht : t = st
                        · subst ht
                          have e7 : (t == t) = true := by simp
                          by_cases hgg : g = sg
                          · subst hgg
                            have e6 : (g == g) = true := by simp
                            go_wp2_with fail
                            clear y0 y1 y2 y3 s0 s1
                            refine wp_region_below (by kernel_rfl) (by kernel_rfl) ?_
                            repeat (go_big_quiet_step (fail))
                            refine wpQuiet_nil ?_
                            intro w1 hb1
                            have B5 := hid (hB.out.trans (hb1.mono hsz))
                            clear hb1
                            go_wp2
                            go_roundw
                            case rel => exact ⟨j + 1, by omega, by go_num, by rw [hnx.out]; rw [e8, e7, e6]; rfl, B5⟩
                            case measure => simp [intOf]; omega
                          · have e6 : (g == sg) = false := by simp [hgg]
                            clear hgg
                            go_wp2_with fail
                            clear y0 y1 y2 y3 s0 s1
                            refine wp_region_below (by kernel_rfl) (by kernel_rfl) ?_
                            repeat (go_big_quiet_step (fail))
                            refine wpQuiet_nil ?_
                            intro w1 hb1
                            have B5 := hid (hB.out.trans (hb1.mono hsz))
                            clear hb1
                            go_wp2
                            go_roundw
                            case rel => exact ⟨j + 1, by omega, by go_num, by rw [hnx.out]; rw [e8, e7, e6]; rfl, B5⟩
                            case measure => simp [intOf]; omega
                        · have e7 : (t == st) = false := by simp [ht]
                          clear ht
                          go_wp2_with fail
                          clear y0 y1 y2 y3 s0 s1
                          refine wp_region_below (by kernel_rfl) (by kernel_rfl) ?_
                          repeat (go_big_quiet_step (fail))
                          refine wpQuiet_nil ?_
                          intro w1 hb1
                          have B5 := hid (hB.out.trans (hb1.mono hsz))
                          clear hb1
                          go_wp2
                          go_roundw
                          case rel => exact ⟨j + 1, by omega, by go_num, by rw [hnx.out]; rw [e8, e7]; rfl, B5⟩
                          case measure => simp [intOf]; omega
                  · have hje : j = P.length := by omega
                    subst hje
                    rw [List.take_length]
                    obtain ⟨bd, hbd⟩ : ∃ bd, (rr || anyS P msg (st, sg)) = bd := ⟨_, rfl⟩
                    rw [hbd]
                    have hb2 := hb'.out
                    rw [hbd] at hb2
                    clear hbd hb'
                    cases b' with
                    | true =>
                      obtain rfl : bd = false := by simpa using hb2.symm
                      clear hb2 hg
                      go_wp2
                      go_ret
                      exact ⟨rfl, B_13.out.trans (hB.out.mono (by omega))⟩
                    | false =>
                      obtain rfl : bd = true := by simpa using hb2.symm
                      have hg := hg.out rfl
                      clear hb2
                      simp only [Gp.mk.injEq] at hg
                      obtain ⟨g1, g2, g3, g4⟩ := hg
                      have g1 := g1.symm
                      have g2 := g2.symm
                      have g3 := g3.symm
                      have g4 := g4.symm
                      subst g1 g2 g3 g4
                      obtain ⟨o0, o1, o2, o3⟩ := Ko_r.out.four
                      go_wp2_with fail
                      refine (sameGroup_same i k _ Lo_r.out.r1 Lo_r.out.r2 LG_r.out.r1 LG_r.out.r2 (by omega) (by omega)).mono ?_
                      rintro e w9 ⟨rfl, hb9⟩
                      go_wp2
                      go_ret
                      exact ⟨rfl, B_13.out.trans ((hB.out.trans (hb9.mono hsz)).mono (by omega))⟩

theorem lawFinalRefused {a : Option Addr} {len cap : Nat} {zs : List Int} (w : World) (h : RowIs .u8 w a len cap zs) :
    Calls Try.prog 5 #[.slice a len cap] w fun e w' => e = .returned (.bool true) ∧ Below w.heap.size w w' :=
  lawFinalRefused_at w w h (Below.refl _ _) (Nat.le_refl _)
end Go.Proofs.Ytmfpbeggddkepaa
