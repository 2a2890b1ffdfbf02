/-
  The program's TxnApply and StoreRun. No condition but lengths below 2^40.
-/
import Derived.Test.YteagmkhpfmiaiaaSpD
namespace Go.Proofs.Yteagmkhpfmiaiaa
open Go.RowKit
set_option linter.unusedVariables false
set_option linter.unusedSimpArgs false

/-- a row is no map -/
theorem own_map {w : World} {lo n s b N : Nat} {ty : TypeId} {v : Value} {xs : List Value} {F : Int → Int} (h : w.ownsRow lo ty s v n xs) (k : MapF w b N F) : v.ownBlock ≠ some b := by
  intro hb
  obtain ⟨D, ⟨es, ck, hh, _⟩, _⟩ := k
  rcases h.2 with ⟨rfl, _⟩ | ⟨g, cap, cur, rfl, _, hg, _⟩
  · cases hb
  · injection hb with hb
    simp only at hb
    subst hb
    rw [hg] at hh
    injection hh with e
    cases e

set_option maxRecDepth 100000 in
set_option maxHeartbeats 4000000 in
theorem TxnApply_impl {A A1 A2 : Option Addr} {n c n1 n2 c1 c2 : Nat} {zs : List Int} {t : Tx} (w : World) (hs : RdI w w.heap.size A n zs) (hn : n < 1099511627776) (hr : RdT w A1 n1 A2 n2 t) :
    Calls Try.prog 19 #[.slice A n c, txV (.slice A1 n1 c1) t.need (.slice A2 n2 c2)] w fun e w' =>
      ∃ v, e = .returned (.tuple #[v, .bool (appB zs t)]) ∧ OwI w' w.heap.size v (appS zs t) ∧ Below w.heap.size w w' := by
  obtain ⟨u0, hu0⟩ : ∃ W, w.alloc (.cells #[.slice A1 n1 c1, .int .i64 t.need, .slice A2 n2 c2] 26) = W := ⟨_, rfl⟩
  have hbb : Below w.heap.size w u0 := by rw [← hu0]; exact below1 _ _
  have hK := hid (show Cs u0 w.heap.size 26 #[.slice A1 n1 c1, .int .i64 t.need, .slice A2 n2 c2] by rw [← hu0]; exact Cs.new _ _ _)
  have hr2 := hid (hr.step hbb)
  have hs2 := hid (hs.stp hbb)
  have hls := hid hs.len
  obtain ⟨nd, hnd⟩ : ∃ x, t.need = x := ⟨_, rfl⟩
  obtain ⟨xb, hxb⟩ : ∃ b, w.heap.size = b := ⟨_, rfl⟩
  have hB := hid hbb
  rw [hxb] at hK
  rw [hnd] at hK hu0
  replace hu0 := hid hu0
  replace hnd := hid hnd
  clear hr hbb hs
  go_enter Try.func19, Try.ntmps19
  go_upto_region 1 with (fail)
  rw [hnd.out, hu0.out]
  try rw [hxb]
  replace hxb := hid hxb
  go_wp2_with fail
  refine (StoreValid_impl _ hs2.out hn).mono ?_
  rintro e w1 ⟨rfl, hb1⟩
  have hs3 := hid (hs2.out.stp hb1)
  have hr3 := hid (hr2.out.step hb1)
  have hK3 := hid (hK.out.step hb1)
  have hB3 := hid (hB.out.trans (hb1.mono hB.out.size))
  obtain ⟨d0, d1, d2⟩ := hK3.out.tri
  clear hb1
  cases hv : vst zs with
  | false =>
    have R1 := hid (show appS zs t = [] by simp [appS, hv])
    have R2 := hid (show appB zs t = false by simp [appB, hv])
    clear hv
    go_wp2_with (go_at_call 44; (rw [← hnd.out]; with_reducible refine (TxnValid_impl _ hr3.out).mono ?_); rintro e w' ⟨rfl, hb3⟩)
    go_ret2
    exact ⟨_, by rw [R2.out]; rfl, by rw [R1.out]; exact OwI.emptyS rfl hB3.out.size, hB3.out.trans ((below1 _ _).mono hB3.out.size)⟩
  | true =>
    have hv' := hid hv
    go_wp2_with fail
    (rw [← hnd.out]; refine (TxnValid_impl _ hr3.out).mono ?_); rw [hnd.out]
    rintro e w2 ⟨rfl, hb2⟩
    have hs4 := hid (hs3.out.stp hb2)
    have hr4 := hid (hr3.out.step hb2)
    have hB4 := hid (hB3.out.trans (hb2.mono hB3.out.size))
    have hK4 := hid (hK3.out.step hb2)
    clear d0 d1 d2 hb2
    obtain ⟨d0, d1, d2⟩ := hK4.out.tri
    cases ht : vtx t with
    | false =>
      have R1 := hid (show appS zs t = [] by simp [appS, ht])
      have R2 := hid (show appB zs t = false by simp [appB, ht])
      clear hv ht
      go_wp2
      go_ret2
      exact ⟨_, by rw [R2.out]; rfl, by rw [R1.out]; exact OwI.emptyS rfl hB4.out.size, hB4.out.trans ((below1 _ _).mono hB4.out.size)⟩
    | true =>
      have hV := hid (vtx_true.1 ht)
      have R1 := hid (show appS zs t = tab (nextF (atS zs) t) by simp [appS, ht, hv])
      have R2 := hid (show appB zs t = okF (atS zs) t by simp [appB, ht, hv])
      have h15 : n = 15 := by rw [← hls.out]; exact vst_len hv
      subst h15
      clear hv ht
      go_wp2_with fail
      refine (valuesOf_any _ hs4.out hv'.out).mono ?_
      rintro e w3 ⟨b, rfl, hbl, hM, hb3⟩
      have hM' := hid hM
      have hr5 := hid (hr4.out.step hb3)
      have hB5 := hid (hB4.out.trans (hb3.mono hB4.out.size))
      have hbl' : w.heap.size ≤ b := Nat.le_trans hB4.out.size hbl
      clear d0 d1 d2
      obtain ⟨d0, d1, d2⟩ := (hK4.out.step hb3).tri
      clear hM hb3 hbl
      go_wp2_with fail
      refine (action_any _).mono ?_
      rintro e w4 ⟨rfl, hw4⟩
      have hb4 : Below w3.heap.size w3 w4 := by rw [hw4]; exact below1 _ _
      have hKp := hid (show Cs w4 w3.heap.size 26 #[.slice A1 n1 c1, .int .i64 nd, .slice A2 n2 c2] by rw [hw4]; exact Cs.new _ _ _)
      have hr6 := hid (hr5.out.step hb4)
      have hM6 := hid (hM'.out.step hb4)
      have hB6 := hid (hB5.out.trans (hb4.mono hB5.out.size))
      clear hw4 hb4 d0 d1 d2
      go_wp2_with fail
      refine (perform_any _ hKp.out hnd.out hr6.out hV.out hM6.out (fun k => vst_amt hv'.out) (by decide)).mono ?_
      rintro e w5 ⟨rfl, hM5, hk5⟩
      have hM7 := hid hM5
      have hB7 := hid (hB6.out.trans (hk5.base hB6.out.size (fun i hi => by subst hi; exact hbl')))
      clear hM5 hk5
      go_wp2_with fail
      refine (stateOf_any _ hM7.out).mono ?_
      rintro e w6 ⟨v, rfl, ho6, hb6⟩
      have ho6' := hid ho6
      have hb6' := hid hb6
      obtain ⟨A9, c9, rfl, -⟩ := ho6.cut (tab_len _)
      clear ho6 hb6
      go_wp2
      go_ret2
      exact ⟨_, by rw [R2.out]; rfl, by rw [R1.out]; exact ho6'.out.more hB7.out.size, hB7.out.trans (hb6'.out.mono hB7.out.size)⟩

/-- what StoreRun answers: a state and what succeeded, in memory of its own -/
def RunPostI (w : World) (zs : List Int) (bs : List Bool) (e : Ending) (w' : World) : Prop :=
  ∃ v u, e = .returned (.tuple #[v, u]) ∧ OwI w' w.heap.size v zs ∧ OwBl w' w.heap.size u bs ∧ Below w.heap.size w w'

set_option maxRecDepth 100000 in
set_option maxHeartbeats 8000000 in
theorem StoreRun_impl {A A' : Option Addr} {n c m d : Nat} {zs : List Int} {ts : List Tx} (w : World) (hs : RdI w w.heap.size A n zs) (hn : n < 1099511627776) (hx : RdX w A' m ts) (hm : m < 1099511627776) :
    Calls Try.prog 32 #[.slice A n c, .slice A' m d] w (RunPostI w (runS zs ts) (runO zs ts)) := by
  have hs' := hid hs
  have hx' := hid hx
  have hls := hid hs.len
  have hlx := hid hx.len
  clear hs hx
  go_enter Try.func32, Try.ntmps32
  go_wp2_with fail
  refine (StoreValid_impl _ hs'.out hn).mono ?_
  rintro e w1 ⟨rfl, hb1⟩
  have hs1 := hid (hs'.out.stp hb1)
  have hx1 := hid (hx'.out.step hb1)
  have hB1 := hid hb1
  clear hb1
  cases hv : vst zs with
  | false =>
    have R1 := hid (runS_no (vrun_no1 (l := ts) hv))
    have R2 := hid (runO_no (vrun_no1 (l := ts) hv))
    clear hv
    go_wp2_with (go_at_call 67; (with_reducible refine (ContainsTxn_any _ hx1.out hm).mono ?_); rintro e w' ⟨rfl, hb3⟩)
    go_ret2
    exact ⟨_, _, rfl, by rw [R1.out]; exact (OwI.emptyS rfl hB1.out.size).allocS _, by rw [R2.out]; exact OwBl.empty' (by simp) (by have := hB1.out.size; omega), hB1.out.trans ((below2 _ _ _).mono hB1.out.size)⟩
  | true =>
    have hv' := hid hv
    have h15 : n = 15 := by rw [← hls.out]; exact vst_len hv
    subst h15
    clear hv hn
    by_cases h10 : 10 < m
    · have R1 := hid (runS_no (vrun_no2 (zs := zs) (l := ts) (by rw [hlx.out]; exact h10)))
      have R2 := hid (runO_no (vrun_no2 (zs := zs) (l := ts) (by rw [hlx.out]; exact h10)))
      have hI : (10 : Int) < (m : Int) := by omega
      go_wp2_with (go_at_call 67; (with_reducible refine (ContainsTxn_any _ hx1.out hm).mono ?_); rintro e w' ⟨rfl, hb3⟩)
      go_ret2
      exact ⟨_, _, rfl, by rw [R1.out]; exact (OwI.emptyS rfl hB1.out.size).allocS _, by rw [R2.out]; exact OwBl.empty' (by simp) (by have := hB1.out.size; omega), hB1.out.trans ((below2 _ _ _).mono hB1.out.size)⟩
    · have hI : ¬ (10 : Int) < (m : Int) := by omega
      go_wp2_with fail
      refine (ContainsTxn_any _ hx1.out hm).mono ?_
      rintro e w2 ⟨rfl, hb2⟩
      have hs2 := hid (hs1.out.stp hb2)
      have hx2 := hid (hx1.out.step hb2)
      have hB2 := hid (hB1.out.trans (hb2.mono hB1.out.size))
      clear hb2
      cases hva : ts.all vtx with
      | false =>
        have hvr : vrun zs ts = false := by simp [vrun, hva]
        have R1 := hid (runS_no hvr)
        have R2 := hid (runO_no hvr)
        clear hva hvr
        go_wp2
        go_ret2
        exact ⟨_, _, rfl, by rw [R1.out]; exact (OwI.emptyS rfl hB2.out.size).allocS _, by rw [R2.out]; exact OwBl.empty' (by simp) (by have := hB2.out.size; omega), hB2.out.trans ((below2 _ _ _).mono hB2.out.size)⟩
      | true =>
        have hV := hid (show vrun zs ts = true by
          have hd : decide (m ≤ 10) = true := by simp; omega
          rw [vrun, hv'.out, hlx.out, hd, hva]; rfl)
        have hAll := hid (vrun_true.1 hV.out).2.2
        clear hva
        obtain ⟨F, hF⟩ : ∃ F, atS zs = F := ⟨_, rfl⟩
        have hFa := hid (show ∀ k, amt (F k) = true from fun k => by rw [← hF]; exact vst_amt hv'.out)
        replace hF := hid hF
        go_wp2_with fail
        refine (valuesOf_any _ hs2.out hv'.out).mono ?_
        rintro e w3 ⟨b, rfl, hbl, hM, hb3⟩
        have hbl' : w.heap.size ≤ b := Nat.le_trans hB2.out.size hbl
        have hM3 := hid (show MapF w3 b 15 F by rw [← hF.out]; exact hM)
        have hB3 := hid (hB2.out.trans (hb3.mono hB2.out.size))
        have hD3 := hid (OwBl.empty w3 hB3.out.size)
        have hM4 := hid (hM3.out.alloc (.cells #[] 4))
        have hB4 := hid (hB3.out.trans ((below1 w3 (.cells #[] 4)).mono hB3.out.size))
        clear hM hb3 hbl
        go_wp2
        go_loopw [8, 32] (fun dn i wr => ∃ (k : Nat), k ≤ m ∧ i = .int .i64 k ∧ Hid (MapF wr b (15 + 15 * k) (runF F (ts.take k))) ∧ Hid (OwBl wr w.heap.size dn (runB F (ts.take k))) ∧ Hid (Below w.heap.size w wr)) (fun _ i _ => m - (intOf i).toNat)
        case atStart => exact ⟨0, by omega, rfl, hM4, hD3, hB4⟩
        case round =>
          obtain ⟨k, hk, rfl, hMk, hDk, hBk⟩ := hrel
          have hlk : (runB F (ts.take k)).length < 1099511627776 := by rw [runB_len]; have := List.length_take_le k ts; omega
          by_cases hlt : k < m
          · obtain ⟨t, bb, off, A1, n1, c1, A2, n2, c2, nd, ht, hnd, rfl, hbbl, e0, e1, e2, hrt⟩ := (hx'.out.step hBk.out).at_ hlt
            have hT := hid (hAll.out t (List.mem_of_getElem? ht.out))
            have hGa := hid (show ∀ i, amt (runF F (ts.take k) i) = true from fun i => runF_amt hFa.out (fun t ht => hAll.out t (List.mem_of_mem_take ht)) i)
            have hN1 := hid (show nextF (runF F (ts.take k)) t = runF F (ts.take (k + 1)) by rw [take_snocT ht.out, runF_snoc])
            have hN2 := hid (show runB F (ts.take k) ++ [okF (runF F (ts.take k)) t] = runB F (ts.take (k + 1)) by rw [take_snocT ht.out, runB_snoc])
            obtain ⟨G, hG⟩ : ∃ G, runF F (ts.take k) = G := ⟨_, rfl⟩
            obtain ⟨bs, hbs⟩ : ∃ bs, runB F (ts.take k) = bs := ⟨_, rfl⟩
            rw [hG] at hMk hGa hN1 hN2
            rw [hbs] at hDk hlk hN2
            clear hG hbs
            go_upto_region 9 with (fail)
            obtain ⟨wa, hwa⟩ : ∃ W, wr.alloc (.cells #[.slice A1 n1 c1, .int .i64 nd, .slice A2 n2 c2] 26) = W := ⟨_, rfl⟩
            try rw [hwa]
            have hba : Below wr.heap.size wr wa := by rw [← hwa]; exact below1 _ _
            have hKa := hid (show Cs wa wr.heap.size 26 #[.slice A1 n1 c1, .int .i64 nd, .slice A2 n2 c2] by rw [← hwa]; exact Cs.new _ _ _)
            have hrt2 := hid (hrt.out.step hba)
            have hMa := hid (hMk.out.step hba)
            have hDa := hid (hDk.out.step hba)
            have hBa := hid (hBk.out.trans (hba.mono hBk.out.size))
            obtain ⟨pp, hpp⟩ : ∃ p, wr.heap.size = p := ⟨_, rfl⟩
            rw [hpp] at hKa
            try rw [hpp]
            clear e0 e1 e2 hba hwa hpp
            obtain ⟨d0, d1, d2⟩ := hKa.out.tri
            go_wp2_with fail
            refine (action_any _).mono ?_
            rintro e w4 ⟨rfl, hw4⟩
            have hb4 : Below wa.heap.size wa w4 := by rw [hw4]; exact below1 _ _
            have hKp := hid (show Cs w4 wa.heap.size 26 #[.slice A1 n1 c1, .int .i64 nd, .slice A2 n2 c2] by rw [hw4]; exact Cs.new _ _ _)
            have hr6 := hid (hrt2.out.step hb4)
            have hM6 := hid (hMa.out.step hb4)
            have hD6 := hid (hDa.out.step hb4)
            have hB6 := hid (hBa.out.trans (hb4.mono hBa.out.size))
            clear hw4 hb4 d0 d1 d2
            have hnb : 15 + 15 * k < 10000 := by omega
            go_wp2_with fail
            refine (perform_any _ hKp.out hnd.out hr6.out hT.out hM6.out hGa.out hnb).mono ?_
            rintro e w5 ⟨rfl, hM5, hk5⟩
            have hM7 := hid (show MapF w5 b (15 + 15 * (k + 1)) (runF F (ts.take (k + 1))) by rw [← hN1.out]; exact hM5.mono (by omega))
            have hB7 := hid (hB6.out.trans (hk5.base hB6.out.size (fun i hi => by subst hi; exact hbl')))
            have hD7 := hid (hD6.out.kp hk5 (fun x hx e => own_map hD6.out hM6.out (by rw [hx, e])))
            clear hM5 hk5 hN1
            go_wp2_with (at_builtin; refine wpList_appBl rfl (.tmp 38) (.tmp 42) rfl w.heap.size _ _ _ rfl rfl hD7.out hB7.out.size hlk ?_; intro v6 w6 hd6 hg6)
            have hM8 := hid (hM7.out.grown hg6 (fun e => own_map hD7.out hM7.out e))
            have hB8 := hid (hB7.out.grown hg6 hB7.out.size (fun k hk => (hD7.out.lt k hk).1))
            clear hg6
            go_roundw
            case rel => exact ⟨k + 1, by omega, by go_num, hM8, hid (by rw [← hN2.out]; exact hd6), hB8⟩
            case measure => simp [intOf]; omega
          · have R1 := hid (show runS zs ts = tab (runF F (ts.take k)) by rw [runS_yes hV.out, hF.out, List.take_of_length_le (by rw [hlx.out]; omega)])
            have R2 := hid (show runO zs ts = runB F (ts.take k) by rw [runO_yes hV.out, hF.out, List.take_of_length_le (by rw [hlx.out]; omega)])
            obtain ⟨bs, hbs⟩ : ∃ bs, runB F (ts.take k) = bs := ⟨_, rfl⟩
            rw [hbs] at hDk R2
            clear hbs hlk
            obtain ⟨o2, c8, rfl, -⟩ := hDk.out.form
            go_wp2_with fail
            refine (stateOf_any _ hMk.out).mono ?_
            rintro e w6 ⟨v, rfl, ho6, hb6⟩
            have ho6' := hid ho6
            have hd6 := hid (hDk.out.step hb6)
            have hb6' := hid hb6
            obtain ⟨A9, c9, rfl, -⟩ := ho6.cut (tab_len _)
            clear ho6 hb6
            go_wp2
            go_ret2
            exact ⟨_, _, rfl, by rw [R1.out]; exact ho6'.out.more hBk.out.size, by rw [R2.out]; exact hd6.out, hBk.out.trans (hb6'.out.mono hBk.out.size)⟩
end Go.Proofs.Yteagmkhpfmiaiaa
