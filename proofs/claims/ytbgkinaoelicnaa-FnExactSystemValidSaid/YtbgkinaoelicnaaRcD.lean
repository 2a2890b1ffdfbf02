/-
  Contracts of the program's stampsAgree and SystemValid. No condition but lengths below 2^40.
-/
import Derived.Test.YtbgkinaoelicnaaRcC
import Derived.Test.YtbgkinaoelicnaaRmHs
namespace Go.Proofs.Ytbgkinaoelicnaa
open Go.RowKit
set_option linter.unusedVariables false
set_option linter.unusedSimpArgs false

/-- what stampsAgree looks at -/
def AgR (gs : List Gp) (m : Int) : Prop := ∀ s ∈ finS gs m, s = grtS gs m

theorem take_snocG {α : Type} {l : List α} {k : Nat} {x : α} (h : l[k]? = some x) : l.take (k + 1) = l.take k ++ [x] := by
  obtain ⟨hk, e⟩ := List.getElem?_eq_some_iff.1 h
  rw [List.take_succ_eq_append_getElem hk, e]

theorem OwS.kp {S : Nat → Prop} {w w' : World} {B : Nat} {v : Value} {zs : List St} (h : OwS w B v zs) (hk : Kp S w w') (hS : ∀ b, v.ownBlock = some b → ¬ S b) : OwS w' B v zs :=
  h.of_block fun g hg => hk.block g (h.lt g hg).2 (hS g hg)

theorem fin_yes {gs : List Gp} {k : Nat} {g : Gp} {m m' t' k' : Int} {b : Bool} (hx : gs[k]? = some g) (hs : stA g m = ((m', (t', k'), true), b)) : finS (gs.take (k + 1)) m = finS (gs.take k) m ++ [(t', k')] := by
  rw [take_snocG hx, finS_snoc, hs]; rfl

theorem fin_no {gs : List Gp} {k : Nat} {g : Gp} {m m' t' k' : Int} {b : Bool} (hx : gs[k]? = some g) (hs : stA g m = ((m', (t', k'), false), b)) : finS (gs.take (k + 1)) m = finS (gs.take k) m := by
  rw [take_snocG hx, finS_snoc, hs]; simp

theorem grt_yes {gs : List Gp} {k : Nat} {g : Gp} {m m' t' k' x y : Int} {f b : Bool} (hx : gs[k]? = some g) (hs : stA g m = ((m', (t', k'), f), b)) (he : grtS (gs.take k) m = (x, y)) (hl : lexB x y t' k' = true) : grtS (gs.take (k + 1)) m = (t', k') := by
  rw [take_snocG hx, grtS_snoc, hs, he]; exact mxS_yes hl

theorem grt_no {gs : List Gp} {k : Nat} {g : Gp} {m m' t' k' x y : Int} {f b : Bool} (hx : gs[k]? = some g) (hs : stA g m = ((m', (t', k'), f), b)) (he : grtS (gs.take k) m = (x, y)) (hl : lexB x y t' k' = false) : grtS (gs.take (k + 1)) m = (x, y) := by
  rw [take_snocG hx, grtS_snoc, hs, he]; exact mxS_no hl

theorem ag_no {gs : List Gp} {m : Int} {R : Bool} (hR : R = true ↔ AgR gs m) (h : ¬ AgR gs m) : R = false := by
  cases R with
  | false => rfl
  | true => exact absurd (hR.1 rfl) h

set_option maxRecDepth 100000 in
set_option maxHeartbeats 8000000 in
theorem stampsAgree_any {n c : Nat} {A : Option Addr} {gs : List Ge} {R : Bool} {m : Int} (hR : R = true ↔ AgR (gs.map Ge.gp) m) (w : World) (h : RdGs w A n gs) (hn : n < 1099511627776) :
    Calls Try.prog 15 #[.slice A n c, .int .i64 m] w fun e w' => e = .returned (.bool R) ∧ Below w.heap.size w w' := by
  have hlen := hid h.len
  obtain ⟨W0, hW0⟩ : ∃ W, (w.alloc (.cells #[] 38)).alloc (.cells #[.int .i64 0, .int .i64 0] 38) = W := ⟨_, rfl⟩
  have hB0 := hid (show Below w.heap.size w W0 by rw [← hW0]; exact below2 w _ _)
  have hK0 := hid (show Cs W0 (w.heap.size + 1) 38 #[.int .i64 0, .int .i64 0] by rw [← hW0]; exact Cs.new' _ _ _ (by simp))
  have hO0 := hid (show OwS W0 w.heap.size (.slice (some ⟨w.heap.size, 0, none⟩) 0 0) [] by rw [← hW0]; exact (OwS.lit0 w rfl).below (below1 _ _))
  have hz0 : W0.heap.size = w.heap.size + 1 + 1 := by rw [← hW0]; simp
  have h0 := hid (h.below hB0.out)
  have h' := hid h
  have hR' := hid hR
  replace hW0 := hid hW0
  clear h hR
  go_enter Try.func15, Try.ntmps15
  go_upto_region 3 with (fail)
  rw [hW0.out]
  go_wp2_with fail
  go_loopw [5, 17] (fun v i wr => ∃ (k : Nat) (gx gy : Int) (vv : Value), k ≤ n ∧ i = .int .i64 k ∧ vv = v ∧ Hid (OwS wr w.heap.size vv (finS ((gs.map Ge.gp).take k) m)) ∧ Hid (vv.ownBlock ≠ some (w.heap.size + 1)) ∧ Hid (grtS ((gs.map Ge.gp).take k) m = (gx, gy)) ∧ Hid (Cs wr (w.heap.size + 1) 38 #[.int .i64 gx, .int .i64 gy]) ∧ Hid (Below w.heap.size w wr) ∧ Hid (RdGs wr A n gs)) (fun _ i _ => n - (intOf i).toNat)
  case atStart => exact ⟨0, 0, 0, _, by omega, rfl, rfl, hO0, hid (by intro e; injection e with e; simp at e), hid rfl, hK0, hB0, h0⟩
  case round =>
    clear hO0 hK0 hB0 h0 hz0
    obtain ⟨k, gx, gy, vv, hk, rfl, rfl, hO, hne, hg, hK, hB, hr⟩ := hrel
    have hsz := hB.out.size
    by_cases hlt : k < n
    · obtain ⟨b, id, ck, A1, n1, c1, A2, n2, c2, P, D, rfl, hx, hrd, hb, q0, q1, q2, q3⟩ := hr.out.at_ hlt
      have i0 : (0 : Int) ≤ (k : Int) := by omega
      have i1 : (k : Int) < (n : Int) := by omega
      have i2 : decide ((k : Int) < (n : Int)) = true := by simp; omega
      obtain ⟨em, et, eg, ef, eb, hst⟩ : ∃ am at_ ag af ab, Hid (stA ⟨id, ck, P, D⟩ m = ((am, (at_, ag), af), ab)) := ⟨_, _, _, _, _, hid rfl⟩
      have hkz : w.heap.size + 1 < wr.heap.size := hK.out.lt
      go_upto_region 6 with (fail)
      obtain ⟨w1, hw1⟩ : ∃ W, wr.alloc (.cells #[.int .i64 id, .int .i64 ck, .slice A1 n1 c1, .slice A2 n2 c2] 36) = W := ⟨_, rfl⟩
      rw [hw1]
      have hb1 : Below wr.heap.size wr w1 := by rw [← hw1]; exact below1 _ _
      have G1 : Cs w1 wr.heap.size 36 #[.int .i64 id, .int .i64 ck, .slice A1 n1 c1, .slice A2 n2 c2] := by rw [← hw1]; exact Cs.new _ _ _
      clear hw1
      have O1 := hid (hO.out.below hb1)
      have K1 := hid (hK.out.step hb1)
      have B1 := hid (hB.out.trans (hb1.mono hsz))
      have R1 := hid (hr.out.below hb1)
      have rd1 := hid (hrd.out.below hb1)
      have z1 := hb1.size
      obtain ⟨g0, g1, g2, g3⟩ := G1.four
      clear hb1 G1 q0 q1 q2 q3
      go_wp2_with fail
      refine (entry_as hst.out _ rd1.out).mono ?_
      rintro e w2 ⟨rfl, hb2⟩
      have O2 := hid (O1.out.below hb2)
      have K2 := hid (K1.out.step hb2)
      have B2 := hid (B1.out.trans (hb2.mono B1.out.size))
      have R2 := hid (R1.out.below hb2)
      have z2 := hb2.size
      clear hb2 g0 g1 g2 g3 O1 K1 B1 R1 rd1 hrd hO hK hr
      go_upto_region 7 with (fail)
      obtain ⟨w3, hw3⟩ : ∃ W, w2.alloc (.cells #[.int .i64 em, .int .i64 et, .int .i64 eg, .bool ef] 40) = W := ⟨_, rfl⟩
      rw [hw3]
      have hb3 : Below w2.heap.size w2 w3 := by rw [← hw3]; exact below1 _ _
      have E3 := hid (show Cs w3 w2.heap.size 40 #[.int .i64 em, .int .i64 et, .int .i64 eg, .bool ef] by rw [← hw3]; exact Cs.new _ _ _)
      clear hw3
      have O3 := hid (O2.out.below hb3)
      have K3 := hid (K2.out.step hb3)
      have B3 := hid (B2.out.trans (hb3.mono B2.out.size))
      have R3 := hid (R2.out.below hb3)
      have z3 := hb3.size
      obtain ⟨e0, e1, e2, e3⟩ := E3.out.four
      clear hb3 O2 K2 B2 R2
      have hge := ge_get hx.out
      have hstg : stA (Ge.gp ⟨id, ck, A1, n1, c1, A2, n2, c2, P, D⟩) m = ((em, (et, eg), ef), eb) := hst.out
      replace hge := hid hge
      replace hstg := hid hstg
      clear hx hst
      cases ef with
      | false =>
        have O7 := hid (show OwS w3 w.heap.size vv (finS ((gs.map Ge.gp).take (k + 1)) m) by rw [fin_no hge.out hstg.out]; exact O3.out)
        have hneX := hne
        obtain ⟨k0, k1, kf0, kf1⟩ := K3.out.two
        cases hlx : lexB gx gy et eg with
        | false =>
          have hgn := hid (grt_no hge.out hstg.out hg.out hlx)
          have hlx' := hid hlx
          clear hlx
          go_wp2_with fail
          refine (lessM_as hlx'.out _).mono ?_
          rintro e w9 ⟨rfl, hb9⟩
          have O9 := hid (O7.out.below hb9)
          have K9 := hid (K3.out.step hb9)
          have B9 := hid (B3.out.trans (hb9.mono B3.out.size))
          have R9 := hid (h'.out.below B9.out)
          clear hb9 e0 e1 e2 e3 k0 k1 kf0 kf1
          go_wp2
          go_roundw
          case rel => exact ⟨k + 1, gx, gy, vv, by omega, by go_num, rfl, O9, hneX, hgn, K9, B9, R9⟩
          case measure => simp [intOf]; omega
        | true =>
          have hgn := hid (grt_yes hge.out hstg.out hg.out hlx)
          have hlx' := hid hlx
          clear hlx
          go_wp2_with fail
          refine (lessM_as hlx'.out _).mono ?_
          rintro e w9 ⟨rfl, hb9⟩
          have O9 := hid (O7.out.below hb9)
          have K9 := hid (K3.out.step hb9)
          have B9 := hid (B3.out.trans (hb9.mono B3.out.size))
          have E9 := hid (E3.out.step hb9)
          obtain ⟨y0, y1, y2, y3⟩ := E9.out.four
          obtain ⟨x0, x1, xf0, xf1⟩ := K9.out.two
          clear hb9 e0 e1 e2 e3 k0 k1 kf0 kf1
          have O6 := hid (O9.out.kp ((Kp.refl (fun b => b = w.heap.size + 1) w9).set2 rfl (.int .i64 et) (.int .i64 eg)) (fun b hb9 e => hneX.out (by rw [hb9, e])))
          have K6 := hid ((K9.out.set 0 (.int .i64 et)).set 1 (.int .i64 eg))
          have B6 := hid ((B9.out.setCell (p := ⟨w.heap.size + 1, 0, none⟩) (Nat.le_succ _) (.int .i64 et)).setCell (p := ⟨w.heap.size + 1, 1, none⟩) (Nat.le_succ _) (.int .i64 eg))
          have R6 := hid (h'.out.below B6.out)
          go_wp2
          go_roundw
          case rel => exact ⟨k + 1, et, eg, vv, by omega, by go_num, rfl, O6, hneX, hgn, K6, B6, R6⟩
          case measure => simp [intOf]; omega
      | true =>
        obtain ⟨w4, hw4⟩ : ∃ W, w3.alloc (.cells #[.int .i64 et, .int .i64 eg] 38) = W := ⟨_, rfl⟩
        have hb4 : Below w3.heap.size w3 w4 := by rw [← hw4]; exact below1 _ _
        have L4 := hid (show Cs w4 w3.heap.size 38 #[.int .i64 et, .int .i64 eg] by rw [← hw4]; exact Cs.new _ _ _)
        have l4 := hid (RdS.of_cs L4.out)
        have O4 := hid (O3.out.below hb4)
        have K4 := hid (K3.out.step hb4)
        have E4 := hid (E3.out.step hb4)
        have B4 := hid (B3.out.trans (hb4.mono B3.out.size))
        have z4 := hb4.size
        have hz4 := hid (show w.heap.size ≤ w4.heap.size by omega)
        have hm4 := hid (show (finS ((gs.map Ge.gp).take k) m).length + 1 < 1099511627776 by
          have := finS_len ((gs.map Ge.gp).take k) m
          rw [List.length_take] at this
          omega)
        replace hw4 := hid hw4
        clear hb4
        go_upto_region 9 with (at_builtin; rw [hw4.out]; (refine wpList_appS2 rfl und_st (.tmp 29) (.tmp 32) rfl (B := w.heap.size) (v := vv) (zs := finS ((gs.map Ge.gp).take k) m) (ys := [(et, eg)]) (m := 1) rfl rfl O4.out l4.out hz4.out hm4.out ?_); intro v5 w5 ho5 hg5 hv5)
        have O5 := hid (show OwS w5 w.heap.size v5 (finS ((gs.map Ge.gp).take (k + 1)) m) by rw [fin_yes hge.out hstg.out]; exact ho5)
        have K5 := hid (grown_cs K4.out hg5 hne.out)
        have E5 := hid (grown_cs E4.out hg5 (cs_type E4.out O4.out (by decide)))
        have B5 := hid (B4.out.grown hg5 hz4.out (fun k hk => (O4.out.lt k hk).1))
        have hneX := hid (show v5.ownBlock ≠ some (w.heap.size + 1) from by
          rcases hv5 with e | e
          · rw [e]; exact hne.out
          · rw [e]; intro e; injection e with e; omega)
        clear ho5 hg5 hv5 O4 K4 E4 B4 l4 L4 hw4 e0 e1 e2 e3
        obtain ⟨k0, k1, kf0, kf1⟩ := K5.out.two
        obtain ⟨e0, e1, e2, e3⟩ := E5.out.four
        cases hlx : lexB gx gy et eg with
        | false =>
          have hgn := hid (grt_no hge.out hstg.out hg.out hlx)
          have hlx' := hid hlx
          clear hlx
          go_wp2_with fail
          refine (lessM_as hlx'.out _).mono ?_
          rintro e w9 ⟨rfl, hb9⟩
          have O9 := hid (O5.out.below hb9)
          have K9 := hid (K5.out.step hb9)
          have B9 := hid (B5.out.trans (hb9.mono B5.out.size))
          have R9 := hid (h'.out.below B9.out)
          clear hb9 e0 e1 e2 e3 k0 k1 kf0 kf1
          go_wp2
          go_roundw
          case rel => exact ⟨k + 1, gx, gy, v5, by omega, by go_num, rfl, O9, hneX, hgn, K9, B9, R9⟩
          case measure => simp [intOf]; omega
        | true =>
          have hgn := hid (grt_yes hge.out hstg.out hg.out hlx)
          have hlx' := hid hlx
          clear hlx
          go_wp2_with fail
          refine (lessM_as hlx'.out _).mono ?_
          rintro e w9 ⟨rfl, hb9⟩
          have O9 := hid (O5.out.below hb9)
          have K9 := hid (K5.out.step hb9)
          have B9 := hid (B5.out.trans (hb9.mono B5.out.size))
          have E9 := hid (E5.out.step hb9)
          obtain ⟨y0, y1, y2, y3⟩ := E9.out.four
          obtain ⟨x0, x1, xf0, xf1⟩ := K9.out.two
          clear hb9 e0 e1 e2 e3 k0 k1 kf0 kf1
          have O6 := hid (O9.out.kp ((Kp.refl (fun b => b = w.heap.size + 1) w9).set2 rfl (.int .i64 et) (.int .i64 eg)) (fun b hb9 e => hneX.out (by rw [hb9, e])))
          have K6 := hid ((K9.out.set 0 (.int .i64 et)).set 1 (.int .i64 eg))
          have B6 := hid ((B9.out.setCell (p := ⟨w.heap.size + 1, 0, none⟩) (Nat.le_succ _) (.int .i64 et)).setCell (p := ⟨w.heap.size + 1, 1, none⟩) (Nat.le_succ _) (.int .i64 eg))
          have R6 := hid (h'.out.below B6.out)
          go_wp2
          go_roundw
          case rel => exact ⟨k + 1, et, eg, v5, by omega, by go_num, rfl, O6, hneX, hgn, K6, B6, R6⟩
          case measure => simp [intOf]; omega
    · have hkn : k = n := by omega
      have hall : (gs.map Ge.gp).take k = gs.map Ge.gp := List.take_of_length_le (by rw [List.length_map, hlen.out]; omega)
      rw [hall] at hO hg
      obtain ⟨zs, hzs⟩ : ∃ zs, finS (gs.map Ge.gp) m = zs := ⟨_, rfl⟩
      have hzl := hid (show zs.length < 1099511627776 by rw [← hzs]; have := finS_len (gs.map Ge.gp) m; rw [List.length_map, hlen.out] at this; omega)
      rw [hzs] at hO
      have hRz := hid (show R = true ↔ ∀ s ∈ zs, s = (gx, gy) from by
        have := hR'.out
        unfold AgR at this
        rw [hzs, hg.out] at this
        exact this)
      obtain ⟨AF, cF, rfl, hF, _, _⟩ := hO.out.form
      obtain ⟨L, hL⟩ : ∃ L, zs.length = L := ⟨_, rfl⟩
      rw [hL] at hF
      have hF' := hid hF
      have hL' := hid hL
      have hLz : L < 1099511627776 := by rw [← hL]; exact hzl.out
      have hkd : decide ((k : Int) < (n : Int)) = false := by simp; omega
      clear hall hkn hzs hO hg hne hr hF h' hR' hlen
      rw [hL]
      clear hL
      go_wp2
      go_loopw [43] (fun i wr => ∃ j : Nat, j ≤ L ∧ i = .int .i64 j ∧ Hid (∀ (i : Nat) (s : St), i < j → zs[i]? = some s → s = (gx, gy)) ∧ Hid (Cs wr (w.heap.size + 1) 38 #[.int .i64 gx, .int .i64 gy]) ∧ Hid (RdS wr AF L zs) ∧ Hid (Below w.heap.size w wr)) (fun i _ => L - (intOf i).toNat)
      case atStart => exact ⟨0, by omega, rfl, hid (fun i s hi => by omega), hK, hF', hB⟩
      case round =>
        clear hK hB hF' hsz
        obtain ⟨j, hj, rfl, hyes, hK, hF, hB⟩ := hrel
        have hsz := hB.out.size
        obtain ⟨k0, k1, kf0, kf1⟩ := hK.out.two
        have hkz := hK.out.lt
        by_cases hlt2 : j < L
        · obtain ⟨b, off, t, g, rfl, hx, hb, c0, c1⟩ := hF.out.at_ hlt2
          have j0 : (0 : Int) ≤ (j : Int) := by omega
          have j1 : (j : Int) < (L : Int) := by omega
          have j2 : decide ((j : Int) < (L : Int)) = true := by simp; omega
          have W1 := below1 wr (.cells #[.int .i64 t, .int .i64 g] 38)
          have K1 := hid (hK.out.step W1)
          have F1 := hid (hF.out.below W1)
          have B1 := hid (hB.out.trans (W1.mono hsz))
          clear W1
          by_cases he : t = gx ∧ g = gy
          · obtain ⟨rfl, rfl⟩ := he
            have hy2 := hid (show ∀ (i : Nat) (s : St), i < j + 1 → zs[i]? = some s → s = (t, g) from fun i s hi hs => by
              by_cases e : i = j
              · subst e
                rw [hx.out] at hs
                injection hs with hs
                exact hs.symm
              · exact hyes.out i s (by omega) hs)
            go_wp2
            go_roundw
            case rel => exact ⟨j + 1, by omega, by go_num, hy2, K1, F1, B1⟩
            case measure => simp [intOf]; omega
          · have hno := hid (show R = false from by
              cases hR9 : R with
              | false => rfl
              | true =>
                have := hRz.out.1 hR9 _ (List.mem_of_getElem? hx.out)
                simp only [Prod.mk.injEq] at this
                exact absurd this he)
            by_cases he1 : t = gx
            · subst he1
              have he2 : (g == gy) = false := by rw [beq_eq_false_iff_ne]; exact fun h => he ⟨rfl, h⟩
              go_wp2
              go_ret
              exact ⟨by rw [hno.out]; rfl, B1.out⟩
            · have he2 : (t == gx) = false := by rw [beq_eq_false_iff_ne]; exact he1
              go_wp2
              go_ret
              exact ⟨by rw [hno.out]; rfl, B1.out⟩
        · have hyes2 := hid (show R = true from hRz.out.2 (fun s hs => by
            obtain ⟨i, hi, his⟩ := List.getElem_of_mem hs
            exact hyes.out i s (by rw [hL'.out] at hi; omega) (by rw [List.getElem?_eq_getElem hi, his])))
          have j2 : decide ((j : Int) < (L : Int)) = false := by simp; omega
          go_wp2
          go_ret
          exact ⟨by rw [hyes2.out]; rfl, hB.out⟩

set_option maxRecDepth 100000 in
set_option maxHeartbeats 8000000 in
theorem SystemValid_impl {n c : Nat} {A : Option Addr} {gs : List Ge} {R : Bool} (hR : R = true ↔ Sys (gs.map Ge.gp)) (w : World) (h : RdGs w A n gs) (hn : n < 1099511627776) :
    Calls Try.prog 7 #[.slice A n c] w fun e w' => e = .returned (.bool R) ∧ Below w.heap.size w w' := by
  have hlen := hid h.len
  by_cases h5 : n = 5
  · subst h5
    obtain ⟨b, rfl, hb0, _⟩ := h.cells (by omega)
    have h' := hid h
    have hR' := hid hR
    clear h hR hn
    go_enter Try.func7, Try.ntmps7
    go_wp2
    go_loopw [11] (fun i wr => ∃ k : Nat, k ≤ 5 ∧ i = .int .i64 k ∧ Hid (∀ (j : Nat) (g : Gp), j < k → (gs.map Ge.gp)[j]? = some g → Vd g ∧ g.id = (j : Int)) ∧ Hid (Below w.heap.size w wr)) (fun i _ => 5 - (intOf i).toNat)
    case atStart => exact ⟨0, by omega, rfl, hid (fun j g hj => by omega), hid (Below.refl _ _)⟩
    case round =>
      obtain ⟨k, hk, rfl, hall, hB⟩ := hrel
      have hsz := hB.out.size
      by_cases hlt : k < 5
      · obtain ⟨id, ck, A1, n1, c1, A2, n2, c2, P, D, hx, hr, hb, q0, q1, q2, q3⟩ := (h'.out.below hB.out).atb hlt
        have i0 : (0 : Int) ≤ (k : Int) := by omega
        have i1 : (k : Int) < ((5 : Nat) : Int) := by omega
        have i5 : (k : Int) < 5 := by omega
        have i6 : decide ((k : Int) < 5) = true := by simp; omega
        have i7 : decide ((k : Int) < ((5 : Nat) : Int)) = true := by simp; omega
        go_upto_region 6 with (fail)
        obtain ⟨w1, hw1⟩ : ∃ W, wr.alloc (.cells #[.int .i64 id, .int .i64 ck, .slice A1 n1 c1, .slice A2 n2 c2] 36) = W := ⟨_, rfl⟩
        rw [hw1]
        have hb1 : Below wr.heap.size wr w1 := by rw [← hw1]; exact below1 _ _
        have G1 : Cs w1 wr.heap.size 36 #[.int .i64 id, .int .i64 ck, .slice A1 n1 c1, .slice A2 n2 c2] := by rw [← hw1]; exact Cs.new _ _ _
        clear hw1
        have B1 := hid (hB.out.trans (hb1.mono hsz))
        have rd1 := hid (hr.out.below hb1)
        obtain ⟨g0, g1, g2, g3⟩ := G1.four
        clear hb1 G1 q0 q1 q2 q3
        by_cases hid9 : id = (k : Int)
        · subst hid9
          cases hv : vdB ⟨(k : Int), ck, P, D⟩ with
          | false =>
            have hno := hid (sys_no hR'.out (fun hs => by
              have := (hs.2.1 k _ (ge_get hx.out)).1
              rw [← vdB_true] at this
              exact absurd (this.symm.trans hv) (by simp)))
            have hv' := hid hv
            clear hv
            go_wp2_with fail
            refine (GroupValidI_as hv'.out _ rd1.out).mono ?_
            rintro e w2 ⟨rfl, hb2⟩
            have B2 := hid (B1.out.trans (hb2.mono B1.out.size))
            clear hb2 g0 g1 g2 g3
            go_wp2
            go_ret
            exact ⟨by rw [hno.out]; rfl, B2.out⟩
          | true =>
            have hvd := hid (vdB_true.1 hv)
            have hv' := hid hv
            clear hv
            go_wp2_with fail
            refine (GroupValidI_as hv'.out _ rd1.out).mono ?_
            rintro e w2 ⟨rfl, hb2⟩
            have B2 := hid (B1.out.trans (hb2.mono B1.out.size))
            clear hb2 g0 g1 g2 g3
            go_wp2
            go_roundw
            case rel => exact ⟨k + 1, by omega, by go_num, hid (fun j g hj hg => by
                by_cases e : j = k
                · subst e
                  rw [ge_get hx.out] at hg
                  injection hg with hg
                  subst hg
                  exact ⟨hvd.out, rfl⟩
                · exact hall.out j g (by omega) hg), B2⟩
            case measure => simp [intOf]; omega
        · have hno := hid (sys_no hR'.out (fun hs => hid9 (hs.2.1 k _ (ge_get hx.out)).2))
          have hne : (id != (k : Int)) = true := by simp [hid9]
          go_wp2
          go_ret
          exact ⟨by rw [hno.out]; rfl, B1.out⟩
      · have hvs := hid (show ∀ (j : Nat) (g : Gp), (gs.map Ge.gp)[j]? = some g → Vd g ∧ g.id = (j : Int) from fun j g hg => hall.out j g (by
          have := (List.getElem?_eq_some_iff.1 hg).1
          rw [List.length_map, hlen.out] at this; omega) hg)
        have hvm := hid (show ∀ g ∈ gs.map Ge.gp, Vd g from fun g hg => by
          obtain ⟨i, hi, e⟩ := List.getElem_of_mem hg
          exact (hvs.out i g (by rw [List.getElem?_eq_getElem hi, e])).1)
        have hk5 : ¬ ((k : Int) < 5) := by omega
        have hk6 : decide ((k : Int) < 5) = false := by simp; omega
        have hk7 : decide ((k : Int) < ((5 : Nat) : Int)) = false := by simp; omega
        clear hall
        go_wp2
        go_loopw [26] (fun i wr => ∃ m : Nat, m ≤ 12 ∧ i = .int .i64 m ∧ Hid (∀ m' : Int, 0 ≤ m' → m' < (m : Int) → MsgOk (gs.map Ge.gp) m') ∧ Hid (Below w.heap.size w wr)) (fun i _ => 12 - (intOf i).toNat)
        case atStart => exact ⟨0, by omega, rfl, hid (fun m' h1 h2 => by omega), hB⟩
        case round =>
          clear hB hsz hk hlt hk5 hk6 hk7
          obtain ⟨m, hm, rfl, hmsg, hB⟩ := hrel
          by_cases hmlt : m < 12
          · have hm12 : (m : Int) < 12 := by omega
            have hmd : decide ((m : Int) < 12) = true := by simp; omega
            have hiff := hid (agree_iff hvm.out (m : Int))
            by_cases hok : MsgOk (gs.map Ge.gp) (m : Int)
            · obtain ⟨r, hr9⟩ : ∃ r, r = true := ⟨_, rfl⟩
              have hs := hid (show (r = true ↔ AgR (gs.map Ge.gp) (m : Int)) from ⟨fun _ => hiff.out.2 hok, fun _ => hr9⟩)
              replace hr9 := hid hr9
              have hmsg2 := hid (show ∀ m' : Int, 0 ≤ m' → m' < ((m + 1 : Nat) : Int) → MsgOk (gs.map Ge.gp) m' from fun m' h1 h2 => by
                by_cases e : m' = (m : Int)
                · rw [e]; exact hok
                · exact hmsg.out m' h1 (by omega))
              go_wp2_with fail
              refine (stampsAgree_any hs.out _ (h'.out.below hB.out) (by decide)).mono ?_
              rw [hr9.out]
              rintro e w2 ⟨rfl, hb2⟩
              have B2 := hid (hB.out.trans (hb2.mono hB.out.size))
              clear hb2
              go_wp2
              go_roundw
              case rel => exact ⟨m + 1, by omega, by go_num, hmsg2, B2⟩
              case measure => simp [intOf]; omega
            · have hs := hid (show (false = true ↔ AgR (gs.map Ge.gp) (m : Int)) from ⟨(fun h => by cases h), fun h => absurd (hiff.out.1 h) hok⟩)
              have hno := hid (sys_no hR'.out (fun hs => hok (hs.2.2 (m : Int) (by omega) (by omega))))
              go_wp2_with fail
              refine (stampsAgree_any hs.out _ (h'.out.below hB.out) (by decide)).mono ?_
              rintro e w2 ⟨rfl, hb2⟩
              have B2 := hid (hB.out.trans (hb2.mono hB.out.size))
              clear hb2
              go_wp2
              go_ret
              exact ⟨by rw [hno.out]; rfl, B2.out⟩
          · have hyes := hid (show R = true from hR'.out.2 ⟨by rw [List.length_map]; exact hlen.out, hvs.out, fun m' h1 h2 => hmsg.out m' h1 (by omega)⟩)
            have hmd : decide ((m : Int) < 12) = false := by simp; omega
            go_wp2
            go_ret
            exact ⟨by rw [hyes.out]; rfl, hB.out⟩
  · have hno := hid (sys_no hR (fun hs => h5 (by rw [← hlen.out, ← hs.1, List.length_map])))
    have hne : ((n : Int) != 5) = true := by simp; omega
    clear h hR
    go_enter Try.func7, Try.ntmps7
    go_wp2
    go_ret
    exact ⟨by rw [hno.out]; rfl, Below.refl _ _⟩
end Go.Proofs.Ytbgkinaoelicnaa
