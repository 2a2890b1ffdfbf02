/-
  The model's TxnApply. No condition but lengths below 2^40.
-/
import Derived.Test.YteagmkhpfmiaiaaSoM
namespace Go.Proofs.Yteagmkhpfmiaiaa
open Go.RowKit
set_option linter.unusedVariables false
set_option linter.unusedSimpArgs false

set_option maxRecDepth 100000 in
set_option maxHeartbeats 8000000 in
theorem l31Apply_any {A A1 A2 : Option Addr} {c n1 n2 c1 c2 : Nat} {zs : List Int} {t : Tx} (w : World) (hs : RdI w w.heap.size A 15 zs) (hv : vst zs = true) (hr : RdT w A1 n1 A2 n2 t) (ht : Vtx t) :
    Calls Try.prog 48 #[.slice A 15 c, txV (.slice A1 n1 c1) t.need (.slice A2 n2 c2)] w fun e w' =>
      ∃ v, e = .returned (.tuple #[v, .bool (okF (atS zs) t)]) ∧ OwI w' w.heap.size v (tab (nextF (atS zs) t)) ∧ Below w.heap.size w w' := by
  obtain ⟨u0, hu0⟩ : ∃ W, w.alloc (.cells #[.slice A1 n1 c1, .int .i64 t.need, .slice A2 n2 c2] 26) = W := ⟨_, rfl⟩
  have hbb : Below w.heap.size w u0 := by rw [← hu0]; exact below1 _ _
  have hK := hid (show Cs u0 w.heap.size 26 #[.slice A1 n1 c1, .int .i64 t.need, .slice A2 n2 c2] by rw [← hu0]; exact Cs.new _ _ _)
  have hxl : w.heap.size < u0.heap.size := by rw [← hu0]; simp
  have hr2 := hid (hr.step hbb)
  have hs2 := hid (hs.stp hbb)
  have l1 : n1 ≤ 15 := by have := hr.r.len; have := ht.rlen; omega
  have l2 : n2 ≤ 15 := by have := hr.p.len; have := ht.plen; omega
  have hlr := hid hr.r.len
  have hlp := hid hr.p.len
  have hz15 := hid (vst_len hv)
  obtain ⟨F, hF⟩ : ∃ F, atS zs = F := ⟨_, rfl⟩
  have hFa := hid (show ∀ k, amt (F k) = true from fun k => by rw [← hF]; exact vst_amt hv)
  have hFt := hid (show zs = tab F by rw [← hF]; exact (tab_atS hz15.out).symm)
  have hFg := hid (show ∀ q : Nat, zs.getD q 0 = F (q : Int) from fun q => by rw [← hF]; simp [atS])
  obtain ⟨nd, hnd⟩ : ∃ x, t.need = x := ⟨_, rfl⟩
  obtain ⟨xb, hxb⟩ : ∃ b, w.heap.size = b := ⟨_, rfl⟩
  have hB := hid hbb
  have ht' := hid ht
  rw [hxb] at hK hxl
  rw [hnd] at hK hu0
  rw [hF]
  replace hu0 := hid hu0
  replace hnd := hid hnd
  replace hF := hid hF
  clear hr hbb hs hv ht
  go_enter Try.func48, Try.ntmps48
  go_upto_region 1 with (fail)
  rw [hnd.out, hu0.out]
  try rw [hxb]
  replace hxb := hid hxb
  go_wp2_with (at_builtin; (refine wpList_copyI rfl (.tmp 11) (.tmp 12) rfl rfl rfl hs2.out (by omega) ?_); intro v1 w1 ho1 hb1)
  obtain ⟨g, cap, rfl, hg0, hg1⟩ := ho1.formS hz15.out (by omega)
  have ho1' := hid ho1
  have hb1' := hid hb1
  have hxg : xb < g := by omega
  obtain ⟨ad, rfl, hadb, hadc⟩ := hs2.out.addr (by omega)
  have hadc1 := hid (cellI hb1 hadb hadc)
  have hadb' := hid hadb
  obtain ⟨d0, d1, d2⟩ := (hK.out.step hb1).tri
  have hrr := hid (hr2.out.step hb1)
  have hadc0 := hid hadc
  clear ho1 hb1 hadc hadb
  go_loop [7, 8] (fun s i => ∃ (k : Nat) (S : Int), k ≤ n1 ∧ i = .int .i64 k ∧ s = .int .i64 S ∧ 0 ≤ S ∧ S ≤ 999 * k ∧ Hid (sumF F (t.rd.take k) = S)) (fun _ i => n1 - (intOf i).toNat)
  case atStart => exact ⟨0, 0, Nat.zero_le _, rfl, rfl, by omega, by omega, hid rfl⟩
  case round =>
    obtain ⟨k, S, hk, rfl, rfl, hS0, hS1, hS⟩ := hrel
    by_cases hlt : k < n1
    · obtain ⟨ar, z, rfl, hz, hc⟩ := RdI.at' hrr.out.r hlt
      have hkl := hid (show k < t.rd.length by rw [hlr.out]; exact hlt)
      have hzr := ht'.out.rd.mem (z := z) (by rw [← hz.out, List.getD_eq_getElem?_getD, List.getElem?_eq_getElem hkl.out]; exact List.getElem_mem hkl.out)
      obtain ⟨q, rfl⟩ := Int.eq_ofNat_of_zero_le hzr.1
      have hq : q < 15 := by omega
      have hqi : (q : Int) < 15 := by omega
      have hcs := hadc1.out q hq
      have hFq := amt_true.1 (hFa.out q)
      have hN := hid (show sumF F (t.rd.take (k + 1)) = S + F q by rw [take_snocI hkl.out hz.out, sumF_snoc, hS.out])
      rw [hFg.out] at hcs
      obtain ⟨y, hy⟩ : ∃ y, F q = y := ⟨_, rfl⟩
      rw [hy] at hcs hFq hN
      obtain ⟨hy0, hy1⟩ := hFq
      clear hzr hy
      go_wp2
      go_round
      case rel => exact ⟨k + 1, S + y, by omega, by go_num, rfl, by omega, by omega, hN⟩
      case measure => simp [intOf]; omega
    · have hSf := hid (show sumF F t.rd = S by
        have := hS.out
        rw [List.take_of_length_le (by rw [hlr.out]; omega)] at this
        exact this)
      clear hS hS1
      go_wp2
      clear d0 d1 d2 hadc1
      go_loopw [9] (fun i wr => ∃ (k : Nat), k ≤ n2 ∧ i = .int .i64 k ∧ Hid (OwI wr u0.heap.size (.slice (some ⟨g, 0, none⟩) 15 cap) (tab (addF F (t.puts.take k)))) ∧ Hid (Below u0.heap.size u0 wr) ∧ Hid (∀ (j : Nat) x, j < k → t.puts[j]? = some x → amt (F x.1 + x.2) = true) ∧ Hid (0 < k → nd ≤ S)) (fun i _ => n2 - (intOf i).toNat)
      case atStart => exact ⟨0, by omega, rfl, hid (by rw [show tab (addF F (t.puts.take 0)) = zs by rw [hFt.out]; exact tab_congr (fun k _ _ => by simp [addF, dlt_nil])]; exact ho1'.out), hb1', hid (fun j x h => by omega), hid (fun h => by omega)⟩
      case round =>
        obtain ⟨k, hk, rfl, how, hbe, hall, hge⟩ := hrel
        have hrp := hid (hr2.out.step hbe.out)
        obtain ⟨d0, d1, d2⟩ := (hK.out.step hbe.out).tri
        by_cases hlt : k < n2
        · obtain ⟨b, off, x, dd, rfl, hx, hbl, e0, e1⟩ := hrp.out.p.at_ hlt
          have hkl := hid (show k < (keysP t.puts).length by rw [keysP_len, hlp.out]; exact hlt)
          have hxr := ht'.out.puts.mem (z := x) (by
            have this : (keysP t.puts).getD k 0 = x := keysP_getD hx.out
            rw [← this, List.getD_eq_getElem?_getD, List.getElem?_eq_getElem hkl.out]; exact List.getElem_mem hkl.out)
          have hdr := ht'.out.adds (x, dd) (List.mem_of_getElem? hx.out)
          obtain ⟨q, rfl⟩ := Int.eq_ofNat_of_zero_le hxr.1
          have hq : q < 15 := by omega
          have hqi : (q : Int) < 15 := by omega
          have hFq := amt_true.1 (hFa.out q)
          have hsz := hbe.out.size
          obtain ⟨hdr0, hdr1⟩ := hdr
          simp only at hdr0 hdr1
          go_upto_region 11 with (fail)
          obtain ⟨wa, hwa⟩ : ∃ W, wr.alloc (.cells #[.int .i64 (q : Int), .int .i64 dd] 33) = W := ⟨_, rfl⟩
          try rw [hwa]
          have hba : Below wr.heap.size wr wa := by rw [← hwa]; exact below1 _ _
          have hkp := hid (show Cs wa wr.heap.size 33 #[.int .i64 (q : Int), .int .i64 dd] by rw [← hwa]; exact Cs.new _ _ _)
          have hbe2 := hid (hbe.out.trans (hba.mono hsz))
          have how2 := hid (how.out.stepS hba)
          have hpl : xb < wr.heap.size := by omega
          obtain ⟨p, hp⟩ : ∃ p, wr.heap.size = p := ⟨_, rfl⟩
          rw [hp] at hkp hpl
          try rw [hp]
          have hgp : g < p := by have := (how.out.lt g rfl).2; omega
          clear d0 d1 d2 e0 e1
          obtain ⟨d0, d1, d2⟩ := (hK.out.step hbe2.out).tri
          obtain ⟨p0, p1, -, -⟩ := hkp.out.two
          have hcs := (cellI hbe2.out hadb'.out hadc0.out) q hq
          rw [hFg.out] at hcs
          obtain ⟨y, hy⟩ : ∃ y, F q = y := ⟨_, rfl⟩
          rw [hy] at hcs hFq
          obtain ⟨hy0, hy1⟩ := hFq
          have hrs := hid (hs2.out.stp hbe2.out)
          have hw0 : IntKind.i64.wrap (y + dd) = y + dd := IntWalk.i64_in _ (by omega)
          clear hbe how hrp hba hwa hp
          cases ha : inB (y + dd) 0 999 with
          | false =>
            have R := hid (show okF F t = false from okF_fit (fitP_bad hx.out (by rw [hy]; exact ha)))
            have R2 := hid (show zs = tab (nextF F t) by rw [nextF_no R.out]; exact hFt.out)
            clear hy
            go_quiet ((go_at_call 59; exact same_call (l6In_any _ _ _ _)))
            go_wp2_with (at_builtin; (refine wpList_copyI rfl (.tmp 59) (.tmp 60) rfl rfl rfl hrs.out (by omega) ?_); intro v3 w3 ho3 hb3)
            have hb3' := hid hb3
            have ho3' := hid ho3
            clear hb3 ho3
            obtain ⟨A3, c3, rfl, -⟩ := ho3'.out.form
            go_ret2
            exact ⟨_, by rw [R.out]; rfl, by rw [← R2.out]; exact ho3'.out.more (Nat.le_trans hB.out.size hbe2.out.size), hB.out.trans (((below_drewN hbe2.out _).trans (hb3'.out.mono hbe2.out.size)).mono hB.out.size)⟩
          | true =>
            by_cases hSn : S < nd
            · have R := hid (show okF F t = false from okF_sum (by rw [hSf.out, hnd.out]; exact hSn))
              have R2 := hid (show zs = tab (nextF F t) by rw [nextF_no R.out]; exact hFt.out)
              clear hy
              go_quiet ((go_at_call 59; exact same_call (l6In_any _ _ _ _)))
              go_wp2_with (at_builtin; (refine wpList_copyI rfl (.tmp 59) (.tmp 60) rfl rfl rfl hrs.out (by omega) ?_); intro v3 w3 ho3 hb3)
              have hb3' := hid hb3
              have ho3' := hid ho3
              clear hb3 ho3
              obtain ⟨A3, c3, rfl, -⟩ := ho3'.out.form
              go_ret2
              exact ⟨_, by rw [R.out]; rfl, by rw [← R2.out]; exact ho3'.out.more (Nat.le_trans hB.out.size hbe2.out.size), hB.out.trans (((below_drewN hbe2.out _).trans (hb3'.out.mono hbe2.out.size)).mono hB.out.size)⟩
            · have hAll := hid (show ∀ (j : Nat) x, j < k + 1 → t.puts[j]? = some x → amt (F x.1 + x.2) = true from fun j x2 hj hx2 => by
                by_cases e : j = k
                · subst e; rw [hx.out] at hx2; injection hx2 with hx2; subst hx2; show amt (F q + dd) = true; rw [hy]; exact ha
                · exact hall.out j x2 (by omega) hx2)
              have hT := hid (show (tab (addF F (t.puts.take k))).set q (y + dd) = tab (addF F (t.puts.take (k + 1))) by
                rw [take_snocP hx.out, addF_snoc (not_mem_take ht'.out.puts hx.out)]
                have := tab_set (addF F (t.puts.take k)) (k := (q : Int)) (by omega) (by omega) (y + dd)
                rw [Int.toNat_natCast] at this
                rw [this, ← hy])
              clear hy hall hge
              obtain ⟨o0, o1, o2⟩ := how2.out.atS (tab_len _) hq
              have o2' := hid (o2 (y + dd))
              clear o2
              rw [hT.out] at o2'
              go_quiet ((go_at_call 59; exact same_call (l6In_any _ _ _ _)))
              go_wp2
              go_region
              go_wp2
              go_roundw
              case rel => exact ⟨k + 1, by omega, by go_num, hid o2'.out, hid ((below_drewN hbe2.out _).setCell (p := ⟨g, q, none⟩) hg0 _), hAll, hid (fun _ => by omega)⟩
              case measure => simp [intOf]; omega
        · have hfit := hid (show fitP F t.puts = true from fitP_all fun j x hx => hall.out j x (by have := (List.getElem?_eq_some_iff.1 hx).1; rw [hlp.out] at this; omega) hx)
          have hkn : k = n2 := by omega
          have hbf := hid (hB.out.trans (hbe.out.mono hB.out.size))
          have hof := hid (show OwI wr w.heap.size (.slice (some ⟨g, 0, none⟩) 15 cap) (tab (addF F t.puts)) by
            have := how.out.more hB.out.size
            rw [List.take_of_length_le (by rw [hlp.out]; omega)] at this
            exact this)
          by_cases hSn : nd ≤ S
          · have R := hid (show okF F t = true from okF_yes (by rw [hSf.out, hnd.out]; exact hSn) hfit.out)
            clear hge hall
            go_wp2
            go_quiet (fail)
            go_wp2
            go_ret2
            exact ⟨_, by rw [R.out]; rfl, by rw [nextF_yes R.out]; exact hof.out, below_drewN hbf.out _⟩
          · have R := hid (show okF F t = false from okF_sum (by rw [hSf.out, hnd.out]; omega))
            have hk0 : n2 = 0 := by
              by_cases h : n2 = 0
              · exact h
              · exact absurd (hge.out (by omega)) hSn
            have hp0 := hid (show t.puts = [] from List.eq_nil_of_length_eq_zero (by rw [hlp.out, hk0]))
            have hof2 := hid (show OwI wr w.heap.size (.slice (some ⟨g, 0, none⟩) 15 cap) (tab F) by
              have := hof.out
              rw [hp0.out] at this
              rw [show tab F = tab (addF F []) from tab_congr (fun k _ _ => by simp [addF, dlt_nil])]; exact this)
            have hdec : decide (nd ≤ S) = false := by rw [decide_eq_false_iff_not]; exact hSn
            clear hge hall hk0 hof
            go_wp2
            go_quiet (fail)
            go_wp2
            go_ret2
            exact ⟨_, by rw [R.out]; rfl, by rw [nextF_no R.out]; exact hof2.out, below_drewN hbf.out _⟩

set_option maxHeartbeats 2000000 in
theorem TxnApply_spec {A A1 A2 : Option Addr} {n c n1 n2 c1 c2 : Nat} {zs : List Int} {t : Tx} (w : World) (hs : RdI w w.heap.size A n zs) (hn : n < 1099511627776) (hr : RdT w A1 n1 A2 n2 t) :
    Calls Try.prog 20 #[.slice A n c, txV (.slice A1 n1 c1) t.need (.slice A2 n2 c2)] w fun e w' =>
      ∃ v, e = .returned (.tuple #[v, .bool (appB zs t)]) ∧ OwI w' w.heap.size v (appS zs t) ∧ Below w.heap.size w w' := by
  obtain ⟨u0, hu0⟩ : ∃ W, w.alloc (.cells #[.slice A1 n1 c1, .int .i64 t.need, .slice A2 n2 c2] 26) = W := ⟨_, rfl⟩
  have hbb : Below w.heap.size w u0 := by rw [← hu0]; exact below1 _ _
  have hK := hid (show Cs u0 w.heap.size 26 #[.slice A1 n1 c1, .int .i64 t.need, .slice A2 n2 c2] by rw [← hu0]; exact Cs.new _ _ _)
  have hr2 := hid (hr.step hbb)
  have hs2 := hid (hs.stp hbb)
  have hls := hid hs.len
  obtain ⟨nd, hnd⟩ : ∃ x, t.need = x := ⟨_, rfl⟩
  obtain ⟨xb, hxb⟩ : ∃ b, w.heap.size = b := ⟨_, rfl⟩
  have hB := hid hbb
  rw [hxb] at hK
  rw [hnd] at hK hu0
  replace hu0 := hid hu0
  replace hnd := hid hnd
  clear hr hbb hs
  go_enter Try.func20, Try.ntmps20
  go_upto_region 1 with (fail)
  rw [hnd.out, hu0.out]
  try rw [hxb]
  replace hxb := hid hxb
  obtain ⟨d0, d1, d2⟩ := hK.out.tri
  cases hv : vst zs with
  | false =>
    have hv' := hid hv
    have R1 := hid (show appS zs t = [] by simp [appS, hv])
    have R2 := hid (show appB zs t = false by simp [appB, hv])
    clear hv
    go_wp2_with (first
      | (go_at_call 37; (with_reducible refine (StoreValid_spec _ hs2.out hn).mono ?_); rw [hv'.out]; rintro e w' ⟨rfl, rfl⟩)
      | (go_at_call 26; (rw [← hnd.out]; with_reducible refine (TxnValid_spec _ hr2.out).mono ?_); rintro e w' ⟨rfl, hb3⟩))
    go_ret2
    exact ⟨_, by rw [R2.out]; rfl, by rw [R1.out]; exact (OwI.empty_lit u0 (Nat.le_refl _)).more hB.out.size, hB.out.trans ((below1 u0 _).mono hB.out.size)⟩
  | true =>
    have hv' := hid hv
    cases ht : vtx t with
    | false =>
      have ht' := hid ht
      have R1 := hid (show appS zs t = [] by simp [appS, ht])
      have R2 := hid (show appB zs t = false by simp [appB, ht])
      clear hv ht
      go_wp2_with (first
        | (go_at_call 37; (with_reducible refine (StoreValid_spec _ hs2.out hn).mono ?_); rw [hv'.out]; rintro e w' ⟨rfl, rfl⟩)
        | (go_at_call 26; (rw [← hnd.out]; with_reducible refine (TxnValid_spec _ hr2.out).mono ?_); rw [ht'.out]; rintro e w3 ⟨rfl, hb3⟩; have hb3' := hid hb3; clear hb3))
      go_ret2
      exact ⟨_, by rw [R2.out]; rfl, by rw [R1.out]; exact (OwI.empty_lit w3 (Nat.le_refl _)).more (Nat.le_trans hB.out.size hb3'.out.size), hB.out.trans ((hb3'.out.trans ((below1 w3 _).mono hb3'.out.size)).mono hB.out.size)⟩
    | true =>
      have ht' := hid ht
      have hV := hid (vtx_true.1 ht)
      have R1 := hid (show appS zs t = tab (nextF (atS zs) t) by simp [appS, ht, hv])
      have R2 := hid (show appB zs t = okF (atS zs) t by simp [appB, ht, hv])
      have h15 : n = 15 := by rw [← hls.out]; exact vst_len hv
      subst h15
      clear hv ht
      go_wp2_with (first
        | (go_at_call 37; (with_reducible refine (StoreValid_spec _ hs2.out hn).mono ?_); rw [hv'.out]; rintro e w' ⟨rfl, rfl⟩)
        | (go_at_call 26; (rw [← hnd.out]; with_reducible refine (TxnValid_spec _ hr2.out).mono ?_); rw [ht'.out]; rintro e w3 ⟨rfl, hb3⟩; have hb3' := hid hb3; have hr3 := hid (hr2.out.step hb3); have hs3 := hid (hs2.out.stp hb3); clear d0 d1 d2; obtain ⟨d0, d1, d2⟩ := (hK.out.step hb3).tri; clear hb3)
        | (go_at_call 48; (rw [← hnd.out]; with_reducible refine (l31Apply_any _ hs3.out hv'.out hr3.out hV.out).mono ?_); rintro e w4 ⟨v4, rfl, ho4, hb4⟩; have ho4' := hid ho4; have hb4' := hid hb4; clear ho4 hb4; obtain ⟨A4, c4, rfl, -⟩ := ho4'.out.form))
      go_ret2
      exact ⟨_, by rw [R2.out]; rfl, by rw [R1.out]; exact ho4'.out.more (Nat.le_trans hB.out.size hb3'.out.size), hB.out.trans ((hb3'.out.trans (hb4'.out.mono hb3'.out.size)).mono hB.out.size)⟩
end Go.Proofs.Yteagmkhpfmiaiaa
