/-
  The model's StorePart, StoreJoin, TxnGroups. No condition but lengths below 2^40.
-/
import Derived.Test.YteagmkhpfmiaiaaSoN
import Derived.Test.YteagmkhpfmiaiaaLl
import Derived.Laws.MakeOwn
namespace Go.Proofs.Yteagmkhpfmiaiaa
open Go.RowKit
set_option linter.unusedVariables false
set_option linter.unusedSimpArgs false

set_option maxRecDepth 100000 in
set_option maxHeartbeats 4000000 in
theorem StorePart_spec {A : Option Addr} {n c : Nat} {zs : List Int} (g : Int) (w : World) (hs : RdI w w.heap.size A n zs) (hn : n < 1099511627776) :
    Calls Try.prog 36 #[.slice A n c, .int .i64 g] w (NewI w (partR zs g)) := by
  have hs' := hid hs
  have hls := hid hs.len
  clear hs
  obtain ⟨V, hV⟩ : ∃ V, vst zs = V := ⟨_, rfl⟩
  obtain ⟨G, hG⟩ : ∃ G, grB g = G := ⟨_, rfl⟩
  replace hV := hid hV
  replace hG := hid hG
  go_enter Try.func36, Try.ntmps36
  go_wp2
  go_loopw [5, 6] (fun o i wr => ∃ (k : Nat), k ≤ 15 ∧ i = .int .i64 k ∧ Hid (k = 0 ∨ (V = true ∧ G = true)) ∧ OwI wr w.heap.size o (((grps k).filter fun i => decide (i % 5 = g)).map (atS zs)) ∧ Below w.heap.size w wr) (fun _ i _ => 15 - (intOf i).toNat)
  case atStart => exact ⟨0, by omega, rfl, hid (.inl rfl), OwI.empty_lit w (Nat.le_refl _), below1 w _⟩
  case round =>
    obtain ⟨k, hk, rfl, hzero, hown, hbel⟩ := hrel
    have hsz := hbel.size
    have hrr := hid ((hs'.out.below hbel).more hbel.size)
    by_cases hlt : k < 15
    · have hltI : (k : Int) < 15 := by omega
      cases V with
      | false =>
        have h0 : k = 0 := by rcases hzero.out with h | h
                              · exact h
                              · cases h.1
        subst h0
        have R := hid (partR_no1 (g := g) hV.out)
        obtain ⟨A2, c2, rfl, -⟩ := hown.form
        have ho := hid hown
        clear hown hzero
        go_wp2_with (first
          | (go_at_call 37; (with_reducible refine (StoreValid_spec _ hrr.out hn).mono ?_); rw [hV.out]; rintro e w' ⟨rfl, rfl⟩)
          | (go_at_call 68; (with_reducible refine (l1Group_any _ _).mono ?_); rintro e w' ⟨rfl, rfl⟩))
        go_ret
        exact ⟨_, rfl, by rw [R.out]; exact ho.out, hbel⟩
      | true =>
        cases G with
        | false =>
          have h0 : k = 0 := by rcases hzero.out with h | h
                                · exact h
                                · cases h.2
          subst h0
          have R := hid (partR_no2 (zs := zs) hG.out)
          obtain ⟨A2, c2, rfl, -⟩ := hown.form
          have ho := hid hown
          clear hown hzero
          go_wp2_with (first
            | (go_at_call 37; (with_reducible refine (StoreValid_spec _ hrr.out hn).mono ?_); rw [hV.out]; rintro e w' ⟨rfl, rfl⟩)
            | (go_at_call 68; (with_reducible refine (l1Group_any _ _).mono ?_); rw [hG.out]; rintro e w' ⟨rfl, rfl⟩))
          go_ret
          exact ⟨_, rfl, by rw [R.out]; exact ho.out, hbel⟩
        | true =>
          have h15 : n = 15 := by rw [← hls.out]; exact vst_len hV.out
          subst h15
          obtain ⟨ad, y, rfl, hy, hc⟩ := RdI.at' hrr.out (k := k) hlt
          have hlen : (((grps k).filter fun i => decide (i % 5 = g)).map (atS zs)).length < 1099511627776 := by
            rw [List.length_map]; have := grps_len (fun i => decide (i % 5 = g)) k; omega
          have hY := hid (show atS zs (k : Int) = y by rw [← hy.out]; simp [atS])
          clear hzero
          by_cases e : (k : Int) % 5 = g
          · have hb : ((k : Int) % 5 == g) = true := by simp [e]
            have hN := hid (show ((grps (k + 1)).filter fun i => decide (i % 5 = g)).map (atS zs) = ((grps k).filter fun i => decide (i % 5 = g)).map (atS zs) ++ [y] by
              rw [grps_hit (p := fun i => decide (i % 5 = g)) (by simpa using e), List.map_append, ← hY.out]; rfl)
            clear e hY
            go_wp2_with (first
              | (go_at_call 37; (with_reducible refine (StoreValid_spec _ hrr.out hn).mono ?_); rw [hV.out]; rintro e w' ⟨rfl, rfl⟩)
              | (go_at_call 68; (with_reducible refine (l1Group_any _ _).mono ?_); rw [hG.out]; rintro e w' ⟨rfl, rfl⟩)
              | (at_builtin; refine wpList_app1 rfl (.tmp 24) (.tmp 29) rfl w.heap.size y _ _ rfl rfl hown hsz hlen ?_; intro v' w1 hown' hbel'))
            go_roundw
            case rel => exact ⟨k + 1, by omega, by go_num, hid (by simp), by rw [hN.out]; exact hown', hbel.trans hbel'⟩
            case measure => simp [intOf]; omega
          · have hb : ((k : Int) % 5 == g) = false := by rw [beq_eq_false_iff_ne]; exact e
            have hN := hid (show ((grps (k + 1)).filter fun i => decide (i % 5 = g)).map (atS zs) = ((grps k).filter fun i => decide (i % 5 = g)).map (atS zs) by
              rw [grps_miss (p := fun i => decide (i % 5 = g)) (by simpa using e)])
            clear e hY
            go_wp2_with (first
              | (go_at_call 37; (with_reducible refine (StoreValid_spec _ hrr.out hn).mono ?_); rw [hV.out]; rintro e w' ⟨rfl, rfl⟩)
              | (go_at_call 68; (with_reducible refine (l1Group_any _ _).mono ?_); rw [hG.out]; rintro e w' ⟨rfl, rfl⟩))
            go_roundw
            case rel => exact ⟨k + 1, by omega, by go_num, hid (by simp), by rw [hN.out]; exact hown, hbel⟩
            case measure => simp [intOf]; omega
    · obtain rfl : k = 15 := by omega
      obtain ⟨rfl, rfl⟩ : V = true ∧ G = true := by rcases hzero.out with h | h
                                                    · omega
                                                    · exact h
      have R := hid (partR_yes hV.out hG.out)
      obtain ⟨L, hL⟩ : ∃ L, ((grps 15).filter fun i => decide (i % 5 = g)).map (atS zs) = L := ⟨_, rfl⟩
      rw [hL] at hown R
      replace hL := hid hL
      obtain ⟨A2, c2, rfl, -⟩ := hown.form
      go_wp2
      go_ret
      exact ⟨_, rfl, by rw [R.out]; exact hown, hbel⟩


set_option maxRecDepth 100000 in
set_option maxHeartbeats 8000000 in
theorem TxnGroups_spec {A1 A2 : Option Addr} {n1 n2 c1 c2 : Nat} {t : Tx} (w : World) (hr : RdT w A1 n1 A2 n2 t) :
    Calls Try.prog 25 #[txV (.slice A1 n1 c1) t.need (.slice A2 n2 c2)] w (NewI w (tgrpR t)) := by
  obtain ⟨u0, hu0⟩ : ∃ W, w.alloc (.cells #[.slice A1 n1 c1, .int .i64 t.need, .slice A2 n2 c2] 26) = W := ⟨_, rfl⟩
  have hbb : Below w.heap.size w u0 := by rw [← hu0]; exact below1 _ _
  have hK := hid (show Cs u0 w.heap.size 26 #[.slice A1 n1 c1, .int .i64 t.need, .slice A2 n2 c2] by rw [← hu0]; exact Cs.new _ _ _)
  have hr2 := hid (hr.step hbb)
  have l1 := hr.l1
  have l2 := hr.l2
  have hlr := hid hr.r.len
  have hlp := hid hr.p.len
  obtain ⟨xb, hxb⟩ : ∃ b, w.heap.size = b := ⟨_, rfl⟩
  obtain ⟨nd, hnd⟩ : ∃ x, t.need = x := ⟨_, rfl⟩
  obtain ⟨V, hV⟩ : ∃ V, vtx t = V := ⟨_, rfl⟩
  replace hV := hid hV
  have hB := hid hbb
  rw [hxb] at hK
  rw [hnd] at hK hu0
  replace hu0 := hid hu0
  replace hnd := hid hnd
  clear hr hbb
  go_enter Try.func25, Try.ntmps25
  go_upto_region 1 with (fail)
  rw [hnd.out, hu0.out]
  try rw [hxb]
  replace hxb := hid hxb
  go_wp2
  go_loopw [3, 4] (fun o i wr => ∃ (k : Nat), k ≤ n1 ∧ i = .int .i64 k ∧ Hid (k = 0 ∨ V = true) ∧ OwI wr u0.heap.size o (grpsOf (t.rd.take k)) ∧ Below u0.heap.size u0 wr) (fun _ i _ => n1 - (intOf i).toNat)
  case atStart => exact ⟨0, by omega, rfl, hid (.inl rfl), OwI.empty_lit u0 (Nat.le_refl _), below1 u0 _⟩
  case round =>
    obtain ⟨k, hk, rfl, hzero, hown, hbel⟩ := hrel
    have hsz := hbel.size
    have hrr := hid (hr2.out.step hbel)
    have hKr := hid (hK.out.step hbel)
    obtain ⟨d0, d1, d2⟩ := hKr.out.tri
    have hgl : (grpsOf (t.rd.take k)).length < 1099511627776 := by have := grps_len (fun g => (t.rd.take k).any fun k => decide (k % 5 = g)) 5; unfold grpsOf; omega
    by_cases hin : k < n1 ∧ V = true
    · obtain ⟨hlt, rfl⟩ := hin
      obtain ⟨ad, z, rfl, hz, hc⟩ := RdI.at' hrr.out.r hlt
      have hkl := hid (show k < t.rd.length by rw [hlr.out]; exact hlt)
      have hzr := (vtx_true.1 hV.out).rd.mem (z := z) (by rw [← hz.out, List.getD_eq_getElem?_getD, List.getElem?_eq_getElem hkl.out]; exact List.getElem_mem hkl.out)
      have hN := hid (show unionL (grpsOf (t.rd.take k)) [z % 5] = grpsOf (t.rd.take (k + 1)) by rw [grpsOf_snoc, take_snocI hkl.out hz.out])
      obtain ⟨hz0, hz1⟩ := hzr
      obtain ⟨W0, hW0⟩ : ∃ W, W = wr := ⟨_, rfl⟩
      subst hW0
      have hown' := hid hown
      have hbel' := hid hbel
      clear hzero hbel hown
      go_wp2_with fail
      (rw [← hnd.out]; with_reducible refine (TxnValid_spec _ hrr.out).mono ?_); rw [hV.out, hnd.out]; rintro e w3 ⟨rfl, hb3⟩
      have hb3' := hid hb3
      have hr3 := hid (hrr.out.step hb3)
      clear d0 d1 d2 hc
      obtain ⟨d0, d1, d2⟩ := (hKr.out.step hb3).tri
      clear hb3
      obtain ⟨ad2, z2, e2, hz2, hc⟩ := RdI.at' hr3.out.r hlt
      obtain rfl : ad = ad2 := by injection e2
      obtain rfl : z = z2 := hz.out.symm.trans hz2.out
      have ho3 := hid (hown'.out.stepS hb3'.out)
      obtain ⟨Ao, co, rfl, -⟩ := hown'.out.form
      have hoR := hid ((ho3.out.allocS (.cells #[.int .i64 (z % 5)] 3)))
      obtain ⟨A9, c9, e9, hr9⟩ := hoR.out.form
      have hone := hid ((OwI.one_lit w3 (Nat.le_refl w3.heap.size) (z % 5)))
      have hb1' := hid (below1 w3 (.cells #[.int .i64 (z % 5)] 3))
      injection e9 with e91 e92 e93
      subst e91; subst e93
      have hr9' := hid hr9
      have hone9 := hid (Reads.of_own (c := 1) hone.out)
      clear e92 hr9 hgl
      have hgl : (grpsOf (t.rd.take k)).length < 1099511627776 := by have := grps_len (fun g => (t.rd.take k).any fun k => decide (k % 5 = g)) 5; unfold grpsOf; omega
      obtain ⟨ng, hng⟩ : ∃ n, (grpsOf (t.rd.take k)).length = n := ⟨_, rfl⟩
      rw [hng] at hgl hr9' ⊢
      go_wp2_with (go_at_call 57; (with_reducible refine (l1Union_any _ hr9'.out hone9.out hgl (by decide)).mono ?_); rintro e w4 ⟨v4, rfl, ho4, hb4⟩; have ho4' := hid ho4; have hb4' := hid hb4; clear ho4 hb4)
      go_roundw
      case rel => exact ⟨k + 1, by omega, by go_num, hid (by simp), by rw [← hN.out]; exact ho4'.out.more (Nat.le_trans hsz (Nat.le_trans hb3'.out.size hb1'.out.size)), hbel'.out.trans ((hb3'.out.trans ((hb1'.out.trans (hb4'.out.mono hb1'.out.size)).mono hb3'.out.size)).mono hsz)⟩
      case measure => simp [intOf]; omega
    · by_cases hlt : k < n1
      · have hVf : V = false := by
          cases V with
          | false => rfl
          | true => exact absurd ⟨hlt, rfl⟩ hin
        subst hVf
        have k0 : k = 0 := by rcases hzero.out with h | h
                              · exact h
                              · cases h
        subst k0
        have hown' := hid hown
        have hbel' := hid hbel
        clear hzero hbel hown hin
        go_wp2_with fail
        (rw [← hnd.out]; with_reducible refine (TxnValid_spec _ hrr.out).mono ?_); rw [hV.out, hnd.out]; rintro e w3 ⟨rfl, hb3⟩
        have hoA := hid (hown'.out.stepS hb3)
        have hbA := hid (hbel'.out.trans (hb3.mono hsz))
        clear d0 d1 d2 hgl hrr hKr hsz
        obtain ⟨d0, d1, d2⟩ := (hK.out.step hbA.out).tri
        clear hb3 hbel' hown' hlt
        obtain ⟨V, hVV⟩ : ∃ V, false = V := ⟨_, rfl⟩
        rw [hVV] at hV
        obtain ⟨L, hLL⟩ : ∃ L : List Int, t.rd.take 0 = L := ⟨_, rfl⟩
        have HL := hid (show (V = true → L = t.rd) ∧ (V = false → L = []) from ⟨fun h => (by rw [← hVV] at h; cases h), fun _ => (by rw [← hLL]; rfl)⟩)
        rw [hLL] at hoA
        replace hLL := hid hLL
        replace hVV := hid hVV
        go_wp2
        clear d0 d1 d2
        go_loopw [3, 5] (fun o i wr => ∃ (k : Nat), k ≤ n2 ∧ i = .int .i64 k ∧ Hid (k = 0 ∨ V = true) ∧ OwI wr u0.heap.size o (grpsOf (L ++ keysP (t.puts.take k))) ∧ Below u0.heap.size u0 wr) (fun _ i _ => n2 - (intOf i).toNat)
        case atStart => exact ⟨0, by omega, rfl, hid (.inl rfl), by rw [show L ++ keysP (t.puts.take 0) = L by simp [keysP]]; exact hoA.out, hbA.out⟩
        case round =>
          obtain ⟨k, hk, rfl, hzero, hown, hbel⟩ := hrel
          have hsz := hbel.size
          have hrr := hid (hr2.out.step hbel)
          have hKr := hid (hK.out.step hbel)
          obtain ⟨d0, d1, d2⟩ := hKr.out.tri
          obtain ⟨GL, hGL⟩ : ∃ G, grpsOf (L ++ keysP (t.puts.take k)) = G := ⟨_, rfl⟩
          have hgl : GL.length < 1099511627776 := by rw [← hGL]; have := grps_len (fun g => (L ++ keysP (t.puts.take k)).any fun k => decide (k % 5 = g)) 5; unfold grpsOf; omega
          rw [hGL] at hown
          replace hGL := hid hGL
          by_cases hlt : k < n2
          · cases hVV : V with
            | true =>
              subst hVV
              obtain ⟨b, off, z, dd, rfl, hx, hbl, e0, e1⟩ := hrr.out.p.at_ hlt
              have hzr := (vtx_true.1 hV.out).puts.mem (z := z) (List.mem_map_of_mem (f := Prod.fst) (List.mem_of_getElem? hx.out))
              have hN := hid (show unionL GL [z % 5] = grpsOf (L ++ keysP (t.puts.take (k + 1))) by
                rw [← hGL.out, grpsOf_snoc, take_snocP hx.out]; simp [keysP])
              obtain ⟨hz0, hz1⟩ := hzr
              have hown' := hid hown
              have hbel' := hid hbel
              clear hzero hbel hown
              go_wp2_with fail
              (rw [← hnd.out]; with_reducible refine (TxnValid_spec _ hrr.out).mono ?_); rw [hV.out, hnd.out]; rintro e w3 ⟨rfl, hb3⟩
              have hb3' := hid hb3
              have hr3 := hid (hrr.out.step hb3)
              clear d0 d1 d2 e0 e1
              obtain ⟨d0, d1, d2⟩ := (hKr.out.step hb3).tri
              clear hb3
              obtain ⟨b2, off2, z2, dd2, e2, hx2, hbl2, e0, e1⟩ := hr3.out.p.at_ hlt
              injection e2 with e2
              injection e2 with e21 e22
              subst e21; subst e22
              obtain rfl : z = z2 := by have := hx.out.symm.trans hx2.out; injection this with this; injection this
              have ho3 := hid (hown'.out.stepS hb3'.out)
              obtain ⟨ng, hng⟩ : ∃ n, GL.length = n := ⟨_, rfl⟩
              obtain ⟨Ao, co, rfl, -⟩ := hown'.out.cut hng
              obtain ⟨A9, c9, e9, hr9⟩ := (ho3.out.allocS (.cells #[.int .i64 (z % 5)] 3)).cut hng
              have hone := hid ((OwI.one_lit w3 (Nat.le_refl w3.heap.size) (z % 5)))
              have hb1' := hid (below1 w3 (.cells #[.int .i64 (z % 5)] 3))
              injection e9 with e91 e92 e93
              subst e91; subst e93
              have hr9' := hid hr9
              have hone9 := hid (Reads.of_own (c := 1) hone.out)
              rw [hng] at hgl
              replace hng := hid hng
              clear e92 hr9
              go_wp2_with (go_at_call 57; (with_reducible refine (l1Union_any _ hr9'.out hone9.out hgl (by decide)).mono ?_); rintro e w4 ⟨v4, rfl, ho4, hb4⟩; have ho4' := hid ho4; have hb4' := hid hb4; clear ho4 hb4)
              go_roundw
              case rel => exact ⟨k + 1, by omega, by go_num, hid (by simp), by rw [← hN.out]; exact ho4'.out.more (Nat.le_trans hsz (Nat.le_trans hb3'.out.size hb1'.out.size)), hbel'.out.trans ((hb3'.out.trans ((hb1'.out.trans (hb4'.out.mono hb1'.out.size)).mono hb3'.out.size)).mono hsz)⟩
              case measure => simp [intOf]; omega
            | false =>
              subst hVV
              obtain rfl : k = 0 := by rcases hzero.out with h | h
                                       · exact h
                                       · cases h
              have R := hid (show tgrpR t = GL by rw [← hGL.out, tgrpR_no hV.out, HL.out.2 rfl]; rfl)
              have hown' := hid hown
              have hbel' := hid hbel
              clear hzero hbel hown
              obtain ⟨Ao, co, rfl, -⟩ := hown'.out.form
              go_wp2_with fail
              (rw [← hnd.out]; with_reducible refine (TxnValid_spec _ hrr.out).mono ?_); rw [hV.out, hnd.out]; rintro e w3 ⟨rfl, hb3⟩
              have hb3' := hid hb3
              have ho3 := hid (hown'.out.stepS hb3)
              clear d0 d1 d2 hb3
              go_wp2
              go_ret
              exact ⟨_, rfl, by rw [R.out]; exact ho3.out.more hB.out.size, hB.out.trans ((hbel'.out.trans (hb3'.out.mono hsz)).mono hB.out.size)⟩
          · have R := hid (show tgrpR t = GL by
              rw [← hGL.out]
              rw [List.take_of_length_le (by rw [hlp.out]; omega)]
              cases hVV : V with
              | true => rw [hVV] at hV; rw [tgrpR_yes hV.out, HL.out.1 hVV]
              | false =>
                rw [hVV] at hV
                have k0 : k = 0 := by rcases hzero.out with h | h
                                      · exact h
                                      · rw [hVV] at h; cases h
                have : t.puts = [] := List.eq_nil_of_length_eq_zero (by rw [hlp.out]; omega)
                rw [tgrpR_no hV.out, HL.out.2 hVV, this]; rfl)
            have hown' := hid hown
            have hbel' := hid hbel
            clear hzero hbel hown
            obtain ⟨Ao, co, rfl, -⟩ := hown'.out.form
            go_wp2
            go_ret
            exact ⟨_, rfl, by rw [R.out]; exact hown'.out.more hB.out.size, hB.out.trans (hbel'.out.mono hB.out.size)⟩
      · have hLr := hid (show t.rd.take k = t.rd from List.take_of_length_le (by rw [hlr.out]; omega))
        have HLa := hid (show (V = true → t.rd = t.rd) ∧ (V = false → t.rd = []) from ⟨fun _ => rfl, fun h => by
          have k0 : k = 0 := by rcases hzero.out with h2 | h2
                                · exact h2
                                · rw [h] at h2; cases h2
          exact List.eq_nil_of_length_eq_zero (by rw [hlr.out]; omega)⟩)
        rw [hLr.out] at hown
        obtain ⟨L, hLL⟩ : ∃ L : List Int, t.rd = L := ⟨_, rfl⟩
        have HL := hid (show (V = true → L = t.rd) ∧ (V = false → L = []) from ⟨fun _ => hLL.symm, fun h => (by rw [← hLL]; exact HLa.out.2 h)⟩)
        rw [hLL] at hown
        have hoA := hid hown
        have hbA := hid hbel
        have hin' : ¬ k < n1 := hlt
        clear hzero hbel hown hin hgl hrr hKr hsz hLr
        replace hLL := hid hLL
        go_wp2
        clear hlt hin'
        clear d0 d1 d2
        go_loopw [3, 5] (fun o i wr => ∃ (k : Nat), k ≤ n2 ∧ i = .int .i64 k ∧ Hid (k = 0 ∨ V = true) ∧ OwI wr u0.heap.size o (grpsOf (L ++ keysP (t.puts.take k))) ∧ Below u0.heap.size u0 wr) (fun _ i _ => n2 - (intOf i).toNat)
        case atStart => exact ⟨0, by omega, rfl, hid (.inl rfl), by rw [show L ++ keysP (t.puts.take 0) = L by simp [keysP]]; exact hoA.out, hbA.out⟩
        case round =>
          obtain ⟨k, hk, rfl, hzero, hown, hbel⟩ := hrel
          have hsz := hbel.size
          have hrr := hid (hr2.out.step hbel)
          have hKr := hid (hK.out.step hbel)
          obtain ⟨d0, d1, d2⟩ := hKr.out.tri
          obtain ⟨GL, hGL⟩ : ∃ G, grpsOf (L ++ keysP (t.puts.take k)) = G := ⟨_, rfl⟩
          have hgl : GL.length < 1099511627776 := by rw [← hGL]; have := grps_len (fun g => (L ++ keysP (t.puts.take k)).any fun k => decide (k % 5 = g)) 5; unfold grpsOf; omega
          rw [hGL] at hown
          replace hGL := hid hGL
          by_cases hlt : k < n2
          · cases hVV : V with
            | true =>
              subst hVV
              obtain ⟨b, off, z, dd, rfl, hx, hbl, e0, e1⟩ := hrr.out.p.at_ hlt
              have hzr := (vtx_true.1 hV.out).puts.mem (z := z) (List.mem_map_of_mem (f := Prod.fst) (List.mem_of_getElem? hx.out))
              have hN := hid (show unionL GL [z % 5] = grpsOf (L ++ keysP (t.puts.take (k + 1))) by
                rw [← hGL.out, grpsOf_snoc, take_snocP hx.out]; simp [keysP])
              obtain ⟨hz0, hz1⟩ := hzr
              have hown' := hid hown
              have hbel' := hid hbel
              clear hzero hbel hown
              go_wp2_with fail
              (rw [← hnd.out]; with_reducible refine (TxnValid_spec _ hrr.out).mono ?_); rw [hV.out, hnd.out]; rintro e w3 ⟨rfl, hb3⟩
              have hb3' := hid hb3
              have hr3 := hid (hrr.out.step hb3)
              clear d0 d1 d2 e0 e1
              obtain ⟨d0, d1, d2⟩ := (hKr.out.step hb3).tri
              clear hb3
              obtain ⟨b2, off2, z2, dd2, e2, hx2, hbl2, e0, e1⟩ := hr3.out.p.at_ hlt
              injection e2 with e2
              injection e2 with e21 e22
              subst e21; subst e22
              obtain rfl : z = z2 := by have := hx.out.symm.trans hx2.out; injection this with this; injection this
              have ho3 := hid (hown'.out.stepS hb3'.out)
              obtain ⟨ng, hng⟩ : ∃ n, GL.length = n := ⟨_, rfl⟩
              obtain ⟨Ao, co, rfl, -⟩ := hown'.out.cut hng
              obtain ⟨A9, c9, e9, hr9⟩ := (ho3.out.allocS (.cells #[.int .i64 (z % 5)] 3)).cut hng
              have hone := hid ((OwI.one_lit w3 (Nat.le_refl w3.heap.size) (z % 5)))
              have hb1' := hid (below1 w3 (.cells #[.int .i64 (z % 5)] 3))
              injection e9 with e91 e92 e93
              subst e91; subst e93
              have hr9' := hid hr9
              have hone9 := hid (Reads.of_own (c := 1) hone.out)
              rw [hng] at hgl
              replace hng := hid hng
              clear e92 hr9
              go_wp2_with (go_at_call 57; (with_reducible refine (l1Union_any _ hr9'.out hone9.out hgl (by decide)).mono ?_); rintro e w4 ⟨v4, rfl, ho4, hb4⟩; have ho4' := hid ho4; have hb4' := hid hb4; clear ho4 hb4)
              go_roundw
              case rel => exact ⟨k + 1, by omega, by go_num, hid (by simp), by rw [← hN.out]; exact ho4'.out.more (Nat.le_trans hsz (Nat.le_trans hb3'.out.size hb1'.out.size)), hbel'.out.trans ((hb3'.out.trans ((hb1'.out.trans (hb4'.out.mono hb1'.out.size)).mono hb3'.out.size)).mono hsz)⟩
              case measure => simp [intOf]; omega
            | false =>
              subst hVV
              obtain rfl : k = 0 := by rcases hzero.out with h | h
                                       · exact h
                                       · cases h
              have R := hid (show tgrpR t = GL by rw [← hGL.out, tgrpR_no hV.out, HL.out.2 rfl]; rfl)
              have hown' := hid hown
              have hbel' := hid hbel
              clear hzero hbel hown
              obtain ⟨Ao, co, rfl, -⟩ := hown'.out.form
              go_wp2_with fail
              (rw [← hnd.out]; with_reducible refine (TxnValid_spec _ hrr.out).mono ?_); rw [hV.out, hnd.out]; rintro e w3 ⟨rfl, hb3⟩
              have hb3' := hid hb3
              have ho3 := hid (hown'.out.stepS hb3)
              clear d0 d1 d2 hb3
              go_wp2
              go_ret
              exact ⟨_, rfl, by rw [R.out]; exact ho3.out.more hB.out.size, hB.out.trans ((hbel'.out.trans (hb3'.out.mono hsz)).mono hB.out.size)⟩
          · have R := hid (show tgrpR t = GL by
              rw [← hGL.out]
              rw [List.take_of_length_le (by rw [hlp.out]; omega)]
              cases hVV : V with
              | true => rw [hVV] at hV; rw [tgrpR_yes hV.out, HL.out.1 hVV]
              | false =>
                rw [hVV] at hV
                have k0 : k = 0 := by rcases hzero.out with h | h
                                      · exact h
                                      · rw [hVV] at h; cases h
                have : t.puts = [] := List.eq_nil_of_length_eq_zero (by rw [hlp.out]; omega)
                rw [tgrpR_no hV.out, HL.out.2 hVV, this]; rfl)
            have hown' := hid hown
            have hbel' := hid hbel
            clear hzero hbel hown
            obtain ⟨Ao, co, rfl, -⟩ := hown'.out.form
            go_wp2
            go_ret
            exact ⟨_, rfl, by rw [R.out]; exact hown'.out.more hB.out.size, hB.out.trans (hbel'.out.mono hB.out.size)⟩
end Go.Proofs.Yteagmkhpfmiaiaa
