/-
  The model's StoreJoin and StoreRun. No condition but lengths below 2^40.
-/
import Derived.Test.YthnkilacknoklaaSoE
import Derived.Test.YthnkilacknoklaaSoD
namespace Go.Proofs.Ythnkilacknoklaa
open Go.RowKit
set_option linter.unusedVariables false
set_option linter.unusedSimpArgs false

set_option maxRecDepth 100000 in
set_option maxHeartbeats 8000000 in
theorem StoreJoin_spec {A : Option Addr} {n c : Nat} {pss : List (List Int)} (w : World) (hs : RdL w w.heap.size A n pss) (hn : n < 1099511627776) (hsh : Short pss) :
    Calls Try.prog 38 #[.slice A n c] w (NewI w (joinR pss)) := by
  obtain ⟨i0, hi, hz0, hz1, hz2⟩ := info_parts info_int
  have hs' := hid hs
  have hln := hid hs.1
  have hsh' := hid hsh
  clear hs hsh
  by_cases h5 : n = 5
  · subst h5
    go_enter Try.func38, Try.ntmps38
    go_wp2_with (refine wpList_make_full (P := Try.prog) _ rfl _ _ 22 rfl w.heap.size 3 i0 (.int .i64 0) 1 Try.underlying22 hi hz0 hz1 .i64 .i64 _ _ 15 rfl rfl rfl rfl (by rw [hz2]; omega) (by unfold maxLen; omega) (Nat.le_refl _) ?_; intro w1 hown hgr)
    have hb1 := hid ((Below.refl w.heap.size w).grown hgr (Nat.le_refl _) (fun k h => by cases h))
    have ho1 : OwI w1 w.heap.size (.slice (some ⟨w.heap.size, 0, none⟩) 15 15) (tab (half pss 0 0)) := by
      rw [half_zero]
      show w1.ownsRow w.heap.size 3 1 _ (List.replicate 15 (0 : Int)).length (ints (List.replicate 15 0))
      have e : (madeCells (Value.int IntKind.i64 0).cells (15 * 1)).toList = ints (List.replicate 15 0) := by
        rw [Nat.mul_one, show (Value.int IntKind.i64 0).cells = #[Value.int IntKind.i64 0] from rfl, toList_madeCells_one]; simp [ints]
      rw [← e]; exact hown
    have ho1' := hid ho1
    clear ho1 hown hgr hi hz0 hz1 hz2 hn
    obtain ⟨B, hB⟩ : ∃ B, w.heap.size = B := ⟨_, rfl⟩
    rw [hB] at ho1' hb1
    try rw [hB]
    replace hB := hid hB
    go_loopw [4] (fun i wr => ∃ (g : Nat), g ≤ 5 ∧ i = .int .i64 g ∧ Hid (OwI wr B (.slice (some ⟨B, 0, none⟩) 15 15) (tab (half pss g 0))) ∧ Hid (Below B w wr) ∧ Hid (∀ j, j < g → (pss.getD j []).length = 3)) (fun i _ => 5 - (intOf i).toNat)
    case atStart => exact ⟨0, by omega, rfl, ho1', hb1, hid (fun j h => by omega)⟩
    case round =>
      obtain ⟨g, hg, rfl, how, hbe, hall⟩ := hrel
      have hsr := hid (hs'.out.below (by rw [hB.out]; exact hbe.out))
      by_cases hlt : g < 5
      · have hltI : (g : Int) < 5 := by omega
        obtain ⟨ad, Ai, m, ci, zs, rfl, hzs, hm, hc, hri⟩ := hsr.out.at' hlt
        have hri' := hid hri
        clear hri
        by_cases hm3 : m = 3
        · subst hm3
          go_wp2
          obtain ⟨v0, hv0⟩ : ∃ v, v = wr := ⟨_, rfl⟩
          subst hv0
          clear hc
          go_loopw [5] (fun i wq => ∃ (k : Nat), k ≤ 3 ∧ i = .int .i64 k ∧ Hid (OwI wq B (.slice (some ⟨B, 0, none⟩) 15 15) (tab (half pss g k))) ∧ Hid (Below B w wq)) (fun i _ => 3 - (intOf i).toNat)
          case atStart => exact ⟨0, by omega, rfl, how, hbe⟩
          case round =>
            obtain ⟨k, hk, rfl, hoq, hbq⟩ := hrel
            have hsq := hid (hs'.out.below (by rw [hB.out]; exact hbq.out))
            obtain ⟨ad2, Aj, m2, cj, zs2, e2, hzs2, hm2, hc, hri2⟩ := hsq.out.at' hlt
            obtain rfl : ad = ad2 := by injection e2
            obtain rfl : zs = zs2 := hzs.out.symm.trans hzs2.out
            obtain rfl : 3 = m2 := hm.out.symm.trans hm2.out
            by_cases hlk : k < 3
            · have hlkI : (k : Int) < 3 := by omega
              obtain ⟨aj, y, rfl, hy, hcy⟩ := RdI.at' hri2 hlk
              have hidx : ((k : Int) * 5 + (g : Int)).toNat = k * 5 + g := by omega
              have hix0 : (0 : Int) ≤ (k : Int) * 5 + (g : Int) := by omega
              have hix1 : (k : Int) * 5 + (g : Int) < 15 := by omega
              obtain ⟨o0, o1, o2⟩ := hoq.out.atS (tab_len _) (show k * 5 + g < 15 by omega)
              have oN := hid (o2 y)
              rw [half_set hlt hlk hzs.out hy.out] at oN
              clear o2 e2 hri2
              go_wp2
              go_roundw
              case rel => exact ⟨k + 1, by omega, by go_num, oN, hid (hbq.out.setCell (p := ⟨B, k * 5 + g, none⟩) (Nat.le_refl _) _)⟩
              case measure => simp [intOf]; omega
            · obtain rfl : k = 3 := by omega
              have oN := hid (show OwI wr B (.slice (some ⟨B, 0, none⟩) 15 15) (tab (half pss (g + 1) 0)) by rw [← half_next]; exact hoq.out)
              go_wp2
              go_roundw
              case rel => exact ⟨g + 1, by omega, by go_num, oN, hbq, hid (fun j hj => by
                by_cases e : j = g
                · subst e; rw [hzs.out, hm.out]
                · exact hall.out j (by omega))⟩
              case measure => simp [intOf]; omega
        · have hb : ((m : Int) != 3) = true := by simp; omega
          have R := hid (joinR_three (by rw [hln.out]; exact hlt) hzs.out (by rw [hm.out]; exact hm3))
          clear hm3
          go_wp2
          go_ret
          exact ⟨_, rfl, by rw [R.out, hB.out]; exact OwI.emptyS rfl hbe.out.size |>.more (by rw [← hB.out]; exact Nat.le_refl _), by rw [hB.out]; exact hbe.out.trans ((below1 wr _).mono (by have := hbe.out.size; rw [hB.out] at this; exact this))⟩
      · obtain rfl : g = 5 := by omega
        have hsp := hid (shapeP_of hln.out (fun g hg => hall.out g hg))
        have hof := hid (show OwI wr B (.slice (some ⟨B, 0, none⟩) 15 15) (tab (valP pss)) by rw [← half_full]; exact how.out)
        obtain ⟨A9, c9, e9, hr9⟩ := hof.out.cut (tab_len _)
        injection e9 with e91 e92 e93
        subst e91; subst e93
        have hr9' := hid hr9
        clear hr9 e92
        cases hv : vst (tab (valP pss)) with
        | true =>
          have hv' := hid hv
          have R := hid (show joinR pss = tab (valP pss) by rw [joinR_fin hsp.out, hv]; rfl)
          clear hv
          go_wp2_with (go_at_call 10; (with_reducible refine (StoreValid_spec _ hr9'.out (by decide)).mono ?_); rw [hv'.out]; rintro e w' ⟨rfl, rfl⟩)
          go_ret
          exact ⟨_, rfl, by rw [R.out, hB.out]; exact hof.out, by rw [hB.out]; exact hbe.out⟩
        | false =>
          have hv' := hid hv
          have R := hid (show joinR pss = [] by rw [joinR_fin hsp.out, hv]; rfl)
          clear hv
          go_wp2_with (go_at_call 10; (with_reducible refine (StoreValid_spec _ hr9'.out (by decide)).mono ?_); rw [hv'.out]; rintro e w' ⟨rfl, rfl⟩)
          go_ret
          exact ⟨_, rfl, by rw [R.out, hB.out]; exact OwI.emptyS rfl (by have := hbe.out.size; rw [hB.out] at this; exact this), by rw [hB.out]; exact hbe.out.trans ((below1 wr _).mono (by have := hbe.out.size; rw [hB.out] at this; exact this))⟩
  · have hb : ((n : Int) != 5) = true := by simp; omega
    have R := hid (joinR_len (by rw [hln.out]; exact h5))
    clear h5
    go_enter Try.func38, Try.ntmps38
    go_wp2
    go_ret
    exact ⟨_, rfl, by rw [R.out]; exact OwI.empty_lit w (Nat.le_refl _), below1 w _⟩

/-- what StoreRun answers: a state and what succeeded, in memory of its own -/
def RunPost (w : World) (zs : List Int) (bs : List Bool) (e : Ending) (w' : World) : Prop :=
  ∃ v u, e = .returned (.tuple #[v, u]) ∧ OwI w' w.heap.size v zs ∧ OwBl w' w.heap.size u bs ∧ Below w.heap.size w w'

set_option maxRecDepth 100000 in
set_option maxHeartbeats 8000000 in
theorem StoreRun_spec {A A' : Option Addr} {n c m d : Nat} {zs : List Int} {ts : List Tx} (w : World) (hs : RdI w w.heap.size A n zs) (hn : n < 1099511627776) (hx : RdX w A' m ts) (hm : m < 1099511627776) :
    Calls Try.prog 27 #[.slice A n c, .slice A' m d] w (RunPost w (runS zs ts) (runO zs ts)) := by
  have hb0 := hid (below1 w (.cells #[] 4))
  have hs' := hid (hs.stp hb0.out)
  have hx' := hid (hx.step hb0.out)
  have hD := hid (OwBl.empty w (Nat.le_refl w.heap.size))
  have hls := hid hs.len
  have hlx := hid hx.len
  have hx0 := hid hx
  clear hs hx
  obtain ⟨u0, hu0⟩ : ∃ W, w.alloc (.cells #[] 4) = W := ⟨_, rfl⟩
  rw [hu0] at hb0 hs' hx' hD
  have hzz : w.heap.size ≤ u0.heap.size := hb0.out.size
  replace hu0 := hid hu0
  cases hv : vst zs with
  | false =>
    have hv' := hid hv
    have R1 := hid (runS_no (vrun_no1 (l := ts) hv))
    have R2 := hid (runO_no (vrun_no1 (l := ts) hv))
    clear hv
    go_enter Try.func27, Try.ntmps27
    go_upto_region 2 with (fail)
    rw [hu0.out]
    go_wp2_with (go_at_call 10; (with_reducible refine (StoreValid_spec _ hs'.out hn).mono ?_); rw [hv'.out]; rintro e w' ⟨rfl, rfl⟩)
    go_ret2
    exact ⟨_, _, rfl, by rw [R1.out]; exact OwI.empty_lit u0 hzz, by rw [R2.out]; exact hD.out.alloc _, hb0.out.trans ((below1 u0 _).mono hzz)⟩
  | true =>
    have hv' := hid hv
    have h15 : n = 15 := by rw [← hls.out]; exact vst_len hv
    subst h15
    clear hv hn
    by_cases h10 : 10 < m
    · have R1 := hid (runS_no (vrun_no2 (zs := zs) (l := ts) (by rw [hlx.out]; exact h10)))
      have R2 := hid (runO_no (vrun_no2 (zs := zs) (l := ts) (by rw [hlx.out]; exact h10)))
      have hI : (10 : Int) < (m : Int) := by omega
      go_enter Try.func27, Try.ntmps27
      go_upto_region 2 with (fail)
      rw [hu0.out]
      go_wp2_with (go_at_call 10; (with_reducible refine (StoreValid_spec _ hs'.out (by decide)).mono ?_); rw [hv'.out]; rintro e w' ⟨rfl, rfl⟩)
      go_ret2
      exact ⟨_, _, rfl, by rw [R1.out]; exact OwI.empty_lit u0 hzz, by rw [R2.out]; exact hD.out.alloc _, hb0.out.trans ((below1 u0 _).mono hzz)⟩
    · have hI : ¬ (10 : Int) < (m : Int) := by omega
      go_enter Try.func27, Try.ntmps27
      go_upto_region 2 with (fail)
      rw [hu0.out]
      go_wp2_with (go_at_call 10; (with_reducible refine (StoreValid_spec _ hs'.out (by decide)).mono ?_); rw [hv'.out]; rintro e w' ⟨rfl, rfl⟩)
      go_loopw [7] (fun i wr => ∃ (k : Nat), k ≤ m ∧ i = .int .i64 k ∧ Hid (Below u0.heap.size u0 wr) ∧ Hid (∀ (j : Nat) t, j < k → ts[j]? = some t → vtx t = true)) (fun i _ => m - (intOf i).toNat)
      case atStart => exact ⟨0, by omega, rfl, hid (Below.refl _ _), hid (fun j t h => by omega)⟩
      case round =>
        obtain ⟨k, hk, rfl, hbe, hall⟩ := hrel
        have hxr := hid (hx'.out.step hbe.out)
        by_cases hlt : k < m
        · obtain ⟨t, b, off, A1, n1, c1, A2, n2, c2, nd, ht, hnd, rfl, hbl, e0, e1, e2, hrt⟩ := hxr.out.at_ hlt
          cases hvt : vtx t with
          | true =>
            have hvt' := hid hvt
            clear hvt
            go_wp2_with (go_at_call 15; (rw [← hnd.out]; with_reducible refine (TxnValid_spec _ hrt.out).mono ?_); rw [hvt'.out]; rintro e w3 ⟨rfl, hb3⟩; have hb3' := hid hb3; clear hb3)
            go_roundw
            case rel => exact ⟨k + 1, by omega, by go_num, hid (hbe.out.trans (hb3'.out.mono hbe.out.size)), hid (fun j t2 hj h2 => by
                by_cases e : j = k
                · subst e; rw [ht.out] at h2; injection h2 with h2; subst h2; exact hvt'.out
                · exact hall.out j t2 (by omega) h2)⟩
            case measure => simp [intOf]; omega
          | false =>
            have hvt' := hid hvt
            have R1 := hid (runS_no (vrun_no3 (zs := zs) ht.out hvt))
            have R2 := hid (runO_no (vrun_no3 (zs := zs) ht.out hvt))
            clear hvt
            go_wp2_with (go_at_call 15; (rw [← hnd.out]; with_reducible refine (TxnValid_spec _ hrt.out).mono ?_); rw [hvt'.out]; rintro e w3 ⟨rfl, hb3⟩; have hb3' := hid hb3; clear hb3)
            go_ret2
            have hl3 : w.heap.size ≤ w3.heap.size := Nat.le_trans hzz (Nat.le_trans hbe.out.size hb3'.out.size)
            exact ⟨_, _, rfl, by rw [R1.out]; exact (OwI.empty_lit w3 hl3).allocS _, by rw [R2.out]; exact OwBl.empty' (by simp) (by omega), hb0.out.trans ((hbe.out.trans ((hb3'.out.trans ((below2 w3 _ _).mono hb3'.out.size)).mono hbe.out.size)).mono hzz)⟩
        · have hV := hid (show vrun zs ts = true from vrun_true.2 ⟨hv'.out, by rw [hlx.out]; omega, fun t ht => by
            obtain ⟨j, hj⟩ := List.getElem?_of_mem ht
            exact vtx_true.1 (hall.out j t (by have := (List.getElem?_eq_some_iff.1 hj).1; rw [hlx.out] at this; omega) hj)⟩)
          have hss := hid (hs'.out.stp hbe.out)
          have hDr := hid (hD.out.step hbe.out)
          have hz2 : w.heap.size ≤ wr.heap.size := Nat.le_trans hzz hbe.out.size
          have hbw := hid (hb0.out.trans (hbe.out.mono hzz))
          obtain ⟨F, hF⟩ : ∃ F, atS zs = F := ⟨_, rfl⟩
          have hFa := hid (show ∀ k, amt (F k) = true from fun k => by rw [← hF]; exact vst_amt hv'.out)
          have hFt := hid (show zs = tab F by rw [← hF]; exact (tab_atS (vst_len hv'.out)).symm)
          replace hF := hid hF
          go_wp2_with (at_builtin; (refine wpList_copyI rfl (.tmp 37) (.tmp 38) rfl rfl rfl hss.out (by omega) ?_); intro v1 w1 ho1 hb1)
          have hD1 := hid (hDr.out.step hb1)
          have ho1' := hid (show OwI w1 w.heap.size v1 (tab (runF F (ts.take 0))) by rw [List.take_zero, runF, ← hFt.out]; exact ho1.more hz2)
          have hb1' := hid (hbw.out.trans (hb1.mono hz2))
          obtain ⟨w0, hw0⟩ : ∃ v, v = wr := ⟨_, rfl⟩
          subst hw0
          clear ho1 hb1 hlt
          go_loopw [6, 8, 9] (fun dn o i wq => ∃ (k : Nat), k ≤ m ∧ i = .int .i64 k ∧ Hid (OwI wq w.heap.size o (tab (runF F (ts.take k)))) ∧ Hid (OwBl wq w.heap.size dn (runB F (ts.take k))) ∧ Hid (Below w.heap.size w wq)) (fun _ _ i _ => m - (intOf i).toNat)
          case atStart => exact ⟨0, by omega, rfl, ho1', hD1, hb1'⟩
          case round =>
            obtain ⟨k, hk, rfl, hoq, hdq, hbq⟩ := hrel
            have hlk : (runB F (ts.take k)).length < 1099511627776 := by rw [runB_len]; have := List.length_take_le k ts; omega
            by_cases hlt : k < m
            · obtain ⟨o1, c9, rfl, hr9⟩ := hoq.out.cut (tab_len _)
              obtain ⟨t, b, off, A1, n1, c1, A2, n2, c2, nd, ht, hnd, rfl, hbl, e0, e1, e2, hrt⟩ := (hx0.out.step hbq.out).at_ hlt
              obtain ⟨G, hG⟩ : ∃ G, runF F (ts.take k) = G := ⟨_, rfl⟩
              have hvv := vrun_true.1 hV.out
              have hT := hid (hvv.2.2 t (List.mem_of_getElem? ht.out))
              have hGa := hid (show vst (tab G) = true from vst_tab (fun i _ _ => by rw [← hG]; exact runF_amt hFa.out (fun t ht => hvv.2.2 t (List.mem_of_mem_take ht)) i))
              have hN1 := hid (show tab (nextF (atS (tab G)) t) = tab (runF F (ts.take (k + 1))) by rw [((eqK_tab G).next hT.out).tab, take_snocT ht.out, runF_snoc, hG])
              have hN2 := hid (show runB F (ts.take k) ++ [okF (atS (tab G)) t] = runB F (ts.take (k + 1)) by rw [(eqK_tab G).ok hT.out, take_snocT ht.out, runB_snoc, hG])
              rw [hG] at hoq hr9
              replace hr9 := hid hr9
              clear hvv hG
              go_wp2_with (first
                | (go_at_call 63; (rw [← hnd.out]; with_reducible refine (l31Apply_any _ hr9.out hGa.out hrt.out hT.out).mono ?_); rintro e w4 ⟨v4, rfl, ho4, hb4⟩; have ho4' := hid ho4; have hb4' := hid hb4; have hd4 := hid (hdq.out.step hb4); have hbq4 := hid (hbq.out.trans (hb4.mono hbq.out.size)); clear ho4 hb4)
                | (at_builtin; refine wpList_appBl rfl (.tmp 56) (.tmp 58) rfl w.heap.size _ _ _ rfl rfl hd4.out hbq4.out.size hlk ?_; intro v5 w5 hd5 hg5))
              have ho5 := hid (own_of_block ho4'.out fun g hg => hg5.block g (ho4'.out.lt g hg).2 (fun e => own_type ho4'.out hd4.out (by decide) g hg e.symm))
              have hb5 := hid (hbq4.out.grown hg5 hbq4.out.size (fun k hk => (hd4.out.lt k hk).1))
              clear hg5
              go_roundw
              case rel => exact ⟨k + 1, by omega, by go_num, hid (by rw [← hN1.out]; exact ho5.out.more hbq.out.size), hid (by rw [← hN2.out]; exact hd5), hb5⟩
              case measure => simp [intOf]; omega
            · have R1 := hid (show runS zs ts = tab (runF F (ts.take k)) by rw [runS_yes hV.out, hF.out, List.take_of_length_le (by rw [hlx.out]; omega)])
              have R2 := hid (show runO zs ts = runB F (ts.take k) by rw [runO_yes hV.out, hF.out, List.take_of_length_le (by rw [hlx.out]; omega)])
              obtain ⟨o1, c9, rfl, -⟩ := hoq.out.cut (tab_len _)
              obtain ⟨nb, hnb⟩ : ∃ n, (runB F (ts.take k)).length = n := ⟨_, rfl⟩
              obtain ⟨o2, c8, e8, -⟩ := hdq.out.form
              rw [hnb] at e8
              subst e8
              go_wp2
              go_ret2
              exact ⟨_, _, rfl, by rw [R1.out]; exact hoq.out, by rw [R2.out]; exact hdq.out, hbq.out⟩
end Go.Proofs.Ythnkilacknoklaa
