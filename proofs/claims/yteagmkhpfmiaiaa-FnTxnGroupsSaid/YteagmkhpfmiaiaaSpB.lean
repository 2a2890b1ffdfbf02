/-
  The program's TxnValid, and lists of transactions. No condition but lengths below 2^40.
-/
import Derived.Test.YteagmkhpfmiaiaaSpA
namespace Go.Proofs.Yteagmkhpfmiaiaa
open Go.RowKit
set_option linter.unusedVariables false
set_option linter.unusedSimpArgs false

set_option maxRecDepth 100000 in
set_option maxHeartbeats 4000000 in
theorem TxnValid_impl {A1 A2 : Option Addr} {n1 n2 c1 c2 : Nat} {t : Tx} (w : World) (hr : RdT w A1 n1 A2 n2 t) :
    Calls Try.prog 44 #[txV (.slice A1 n1 c1) t.need (.slice A2 n2 c2)] w fun e w' => e = .returned (.bool (vtx t)) ∧ Below w.heap.size w w' := by
  obtain ⟨u0, hu0⟩ : ∃ W, w.alloc (.cells #[.slice A1 n1 c1, .int .i64 t.need, .slice A2 n2 c2] 26) = W := ⟨_, rfl⟩
  have hbb : Below w.heap.size w u0 := by rw [← hu0]; exact below1 _ _
  have hK := hid (show Cs u0 w.heap.size 26 #[.slice A1 n1 c1, .int .i64 t.need, .slice A2 n2 c2] by rw [← hu0]; exact Cs.new _ _ _)
  have hr2 := hid (hr.step hbb)
  have l1 := hr.l1
  have l2 := hr.l2
  have hlr := hid hr.r.len
  have hlp := hid hr.p.len
  obtain ⟨xb, hxb⟩ : ∃ b, w.heap.size = b := ⟨_, rfl⟩
  obtain ⟨nd, hnd⟩ : ∃ x, t.need = x := ⟨_, rfl⟩
  have hB := hid hbb
  rw [hxb] at hK
  rw [hnd] at hK hu0
  replace hu0 := hid hu0
  replace hnd := hid hnd
  clear hr hbb
  obtain ⟨d0, d1, d2⟩ := hK.out.tri
  cases ha : decide (Asc t.rd) with
  | false =>
    have ha' := hid ha
    have R := hid (vtx_rd (by simpa using ha))
    clear ha
    go_enter Try.func44, Try.ntmps44
    go_upto_region 1 with (fail)
    rw [hnd.out, hu0.out]
    try rw [hxb]
    replace hxb := hid hxb
    go_wp2_with (go_at_call 71; (with_reducible refine (keysAscend_any _ hr2.out.r l1).mono ?_); rw [ha'.out]; rintro e w' ⟨rfl, rfl⟩)
    go_ret
    exact ⟨ret_bool R.out.symm, hB.out⟩
  | true =>
    have ha' := hid ha
    have hA := hid (of_decide_eq_true ha)
    clear ha
    go_enter Try.func44, Try.ntmps44
    go_upto_region 1 with (fail)
    rw [hnd.out, hu0.out]
    try rw [hxb]
    replace hxb := hid hxb
    go_wp2_with (go_at_call 71; (with_reducible refine (keysAscend_any _ hr2.out.r l1).mono ?_); rw [ha'.out]; rintro e w' ⟨rfl, rfl⟩)
    refine (putKeys_any _ hr2.out.p l2).mono ?_
    rintro e w3 ⟨v3, rfl, ho3, hb3⟩
    obtain ⟨A3, c3, rfl, hr3⟩ := ho3.cut (show (keysP t.puts).length = n2 by rw [keysP_len, hlp.out])
    have hb3' := hid hb3
    have hr3' := hid hr3
    have hrr := hid (hr2.out.step hb3)
    clear d0 d1 d2 ho3 hr3
    obtain ⟨d0, d1, d2⟩ := (hK.out.step hb3).tri
    have hB3 := hid (hB.out.trans (hb3.mono hB.out.size))
    clear hb3
    cases hc : decide (Asc (keysP t.puts)) with
    | false =>
      have hc' := hid hc
      have R := hid (vtx_puts (by simpa using hc))
      clear hc
      go_wp2_with (go_at_call 71; (with_reducible refine (keysAscend_any _ hr3'.out l2).mono ?_); rw [hc'.out]; rintro e w' ⟨rfl, rfl⟩)
      go_ret
      exact ⟨ret_bool R.out.symm, hB3.out⟩
    | true =>
      have hc' := hid hc
      have hC := hid (of_decide_eq_true hc)
      clear hc
      cases hd : adds t.puts with
      | false =>
        have hd' := hid hd
        have R := hid (vtx_adds (by rw [adds_iff] at hd; simpa using hd))
        clear hd
        go_wp2_with (first
          | (go_at_call 71; (with_reducible refine (keysAscend_any _ hr3'.out l2).mono ?_); rw [hc'.out]; rintro e w' ⟨rfl, rfl⟩)
          | (go_at_call 72; (with_reducible refine (ContainsPut_any _ hrr.out.p l2).mono ?_); rw [hd'.out]; rintro e w4 ⟨rfl, hb4⟩; have hb4' := hid hb4; clear hb4))
        go_ret
        exact ⟨ret_bool R.out.symm, hB3.out.trans (hb4'.out.mono hB3.out.size)⟩
      | true =>
        have hd' := hid hd
        have hD := hid (show AddOk t.puts by rw [adds_iff] at hd; exact of_decide_eq_true hd)
        have F := hid (vtx_fin hA.out hC.out hD.out)
        rw [hlr.out, hlp.out, hnd.out] at F
        clear hd
        by_cases hs : 0 < n1 + n2
        · have hs' : (0 : Int) < (n1 : Int) + (n2 : Int) := by omega
          have F2 := hid (show vtx t = inB nd 0 14985 by rw [F, decide_eq_true hs]; rfl)
          clear hs F
          by_cases h0 : 0 ≤ nd
          · by_cases h1 : nd ≤ 14985
            · have R := hid (show vtx t = true by rw [F2.out]; exact inB_true.2 ⟨h0, h1⟩)
              go_wp2_with (first
                | (go_at_call 71; (with_reducible refine (keysAscend_any _ hr3'.out l2).mono ?_); rw [hc'.out]; rintro e w' ⟨rfl, rfl⟩)
                | (go_at_call 72; (with_reducible refine (ContainsPut_any _ hrr.out.p l2).mono ?_); rw [hd'.out]; rintro e w4 ⟨rfl, hb4⟩; have hb4' := hid hb4; clear d0 d1 d2; obtain ⟨d0, d1, d2⟩ := ((hK.out.step hb3'.out).step hb4).tri; clear hb4))
              go_ret
              exact ⟨ret_bool R.out.symm, hB3.out.trans (hb4'.out.mono hB3.out.size)⟩
            · have R := hid (show vtx t = false by rw [F2.out]; exact inB_false.2 (by omega))
              have hdec : decide (nd ≤ 14985) = false := by rw [decide_eq_false_iff_not]; exact h1
              go_wp2_with (first
                | (go_at_call 71; (with_reducible refine (keysAscend_any _ hr3'.out l2).mono ?_); rw [hc'.out]; rintro e w' ⟨rfl, rfl⟩)
                | (go_at_call 72; (with_reducible refine (ContainsPut_any _ hrr.out.p l2).mono ?_); rw [hd'.out]; rintro e w4 ⟨rfl, hb4⟩; have hb4' := hid hb4; clear d0 d1 d2; obtain ⟨d0, d1, d2⟩ := ((hK.out.step hb3'.out).step hb4).tri; clear hb4))
              go_ret
              exact ⟨ret_bool R.out.symm, hB3.out.trans (hb4'.out.mono hB3.out.size)⟩
          · have R := hid (show vtx t = false by rw [F2.out]; exact inB_false.2 (by omega))
            go_wp2_with (first
              | (go_at_call 71; (with_reducible refine (keysAscend_any _ hr3'.out l2).mono ?_); rw [hc'.out]; rintro e w' ⟨rfl, rfl⟩)
              | (go_at_call 72; (with_reducible refine (ContainsPut_any _ hrr.out.p l2).mono ?_); rw [hd'.out]; rintro e w4 ⟨rfl, hb4⟩; have hb4' := hid hb4; clear d0 d1 d2; obtain ⟨d0, d1, d2⟩ := ((hK.out.step hb3'.out).step hb4).tri; clear hb4))
            go_ret
            exact ⟨ret_bool R.out.symm, hB3.out.trans (hb4'.out.mono hB3.out.size)⟩
        · have hs' : ¬ (0 : Int) < (n1 : Int) + (n2 : Int) := by omega
          have R := hid (show vtx t = false by rw [F, decide_eq_false hs]; rfl)
          clear hs F
          go_wp2_with (first
            | (go_at_call 71; (with_reducible refine (keysAscend_any _ hr3'.out l2).mono ?_); rw [hc'.out]; rintro e w' ⟨rfl, rfl⟩)
            | (go_at_call 72; (with_reducible refine (ContainsPut_any _ hrr.out.p l2).mono ?_); rw [hd'.out]; rintro e w4 ⟨rfl, hb4⟩; have hb4' := hid hb4; clear d0 d1 d2; obtain ⟨d0, d1, d2⟩ := ((hK.out.step hb3'.out).step hb4).tri; clear hb4))
          go_ret
          exact ⟨ret_bool R.out.symm, hB3.out.trans (hb4'.out.mono hB3.out.size)⟩

set_option maxHeartbeats 400000 in
theorem badTxn_any {A1 A2 : Option Addr} {n1 n2 c1 c2 : Nat} {nd : Int} {t : Tx} (w : World) (hr : RdT w A1 n1 A2 n2 t) (hnd : t.need = nd) :
    Calls Try.prog 66 #[txV (.slice A1 n1 c1) nd (.slice A2 n2 c2)] w fun e w' => e = .returned (.bool (!vtx t)) ∧ Below w.heap.size w w' := by
  obtain ⟨u0, hu0⟩ : ∃ W, w.alloc (.cells #[.slice A1 n1 c1, .int .i64 nd, .slice A2 n2 c2] 26) = W := ⟨_, rfl⟩
  have hbb : Below w.heap.size w u0 := by rw [← hu0]; exact below1 _ _
  have hK := hid (show Cs u0 w.heap.size 26 #[.slice A1 n1 c1, .int .i64 nd, .slice A2 n2 c2] by rw [← hu0]; exact Cs.new _ _ _)
  have hr2 := hid (hr.step hbb)
  obtain ⟨xb, hxb⟩ : ∃ b, w.heap.size = b := ⟨_, rfl⟩
  have hB := hid hbb
  have hnd' := hid hnd
  rw [hxb] at hK
  replace hu0 := hid hu0
  obtain ⟨d0, d1, d2⟩ := hK.out.tri
  clear hr hbb hnd
  go_enter Try.func66, Try.ntmps66
  go_upto_region 1 with (fail)
  rw [hu0.out]
  try rw [hxb]
  replace hxb := hid hxb
  go_wp2_with (go_at_call 44; (rw [← hnd'.out]; with_reducible refine (TxnValid_impl _ hr2.out).mono ?_); rintro e w2 ⟨rfl, hb2⟩; have hb2' := hid hb2; clear hb2)
  go_ret
  exact ⟨rfl, hB.out.trans (hb2'.out.mono hB.out.size)⟩

set_option maxRecDepth 100000 in
set_option maxHeartbeats 1000000 in
theorem IndexTxn_any {n c : Nat} {A : Option Addr} {ts : List Tx} (w : World) (hr : RdX w A n ts) (hn : n < 1099511627776) :
    Calls Try.prog 81 #[.slice A n c, .func (.func 66) #[] #[]] w (IdxPost (!ts.all vtx) w) := by
  have hl' := hid hr.len
  have hr' := hid hr
  clear hr
  go_enter Try.func81, Try.ntmps81
  go_wp2
  go_loopw [8] (fun i wr => ∃ k : Nat, k ≤ n ∧ i = .int .i64 k ∧ Hid (Below w.heap.size w wr) ∧ Hid (∀ (j : Nat) t, j < k → ts[j]? = some t → vtx t = true)) (fun i _ => n - (intOf i).toNat)
  case atStart => exact ⟨0, Nat.zero_le _, rfl, hid (Below.refl _ _), hid (fun j x h => by omega)⟩
  case round =>
    obtain ⟨k, hk, rfl, hbe, hall⟩ := hrel
    by_cases hlt : k < n
    · obtain ⟨t, b, off, A1, n1, c1, A2, n2, c2, nd, ht, hnd, rfl, hbl, e0, e1, e2, hrt⟩ := (hr'.out.step hbe.out).at_ hlt
      cases ha : vtx t with
      | true =>
        have ha' := hid ha
        clear ha
        go_wp2_with (go_at_call 66; (with_reducible refine (badTxn_any _ hrt.out hnd.out).mono ?_); rw [ha'.out]; rintro e w2 ⟨rfl, hb2⟩; have hb2' := hid hb2; clear hb2)
        go_roundw
        case rel => exact ⟨k + 1, by omega, by go_num, hid (hbe.out.trans (hb2'.out.mono hbe.out.size)), hid (fun j y hj hy => by
            by_cases e : j = k
            · subst e; rw [ht.out] at hy; injection hy with hy; subst hy; exact ha'.out
            · exact hall.out j y (by omega) hy)⟩
        case measure => simp [intOf]; omega
      | false =>
        have ha' := hid ha
        have hbad := hid (show (!ts.all vtx) = true by
          have : ts.all vtx = false := by
            rw [List.all_eq_false]
            exact ⟨_, List.mem_of_getElem? ht.out, by simp [ha]⟩
          simp [this])
        clear ha
        go_wp2_with (go_at_call 66; (with_reducible refine (badTxn_any _ hrt.out hnd.out).mono ?_); rw [ha'.out]; rintro e w2 ⟨rfl, hb2⟩; have hb2' := hid hb2; clear hb2)
        go_ret
        exact ⟨_, rfl, .inl ⟨by omega, hbad.out⟩, hbe.out.trans (hb2'.out.mono hbe.out.size)⟩
    · have hfin := hid (show (!ts.all vtx) = false by
        have : ts.all vtx = true := by
          rw [List.all_eq_true]; intro x hx
          obtain ⟨i, hi⟩ := List.getElem?_of_mem hx
          exact hall.out i x (by have := (List.getElem?_eq_some_iff.1 hi).1; rw [hl'.out] at this; omega) hi
        simp [this])
      go_wp2
      go_ret
      exact ⟨_, rfl, .inr ⟨rfl, hfin.out⟩, hbe.out⟩

set_option maxHeartbeats 400000 in
theorem ContainsTxn_any {n c : Nat} {A : Option Addr} {ts : List Tx} (w : World) (hr : RdX w A n ts) (hn : n < 1099511627776) :
    Calls Try.prog 67 #[.slice A n c, .func (.func 66) #[] #[]] w fun e w' => e = .returned (.bool (!ts.all vtx)) ∧ Below w.heap.size w w' := by
  have hr' := hid hr
  clear hr
  go_enter Try.func67, Try.ntmps67
  go_wp2_with fail
  refine (IndexTxn_any w hr'.out hn).mono ?_
  rintro e w2 ⟨r, rfl, (⟨h0, hb⟩ | ⟨rfl, hb⟩), hbe⟩
  · have hb' := hid hb
    have hbe' := hid hbe
    clear hb hbe
    go_wp2
    go_ret
    exact ⟨ret_bool hb'.out.symm, hbe'.out⟩
  · have hb' := hid hb
    have hbe' := hid hbe
    clear hb hbe
    go_wp2
    go_ret
    exact ⟨ret_bool hb'.out.symm, hbe'.out⟩
end Go.Proofs.Yteagmkhpfmiaiaa
