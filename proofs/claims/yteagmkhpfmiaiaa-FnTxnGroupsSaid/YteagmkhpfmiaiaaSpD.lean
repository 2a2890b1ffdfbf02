/-
  The program's transactions as closures, TxnApply, StoreRun. No condition but lengths below 2^40.
-/
import Derived.Test.YteagmkhpfmiaiaaSpB
import Derived.Test.YteagmkhpfmiaiaaSpC
namespace Go.Proofs.Yteagmkhpfmiaiaa
open Go.RowKit
set_option linter.unusedVariables false
set_option linter.unusedSimpArgs false

set_option maxHeartbeats 1000000 in
theorem action_any {A1 A2 : Option Addr} {n1 n2 c1 c2 : Nat} {nd : Int} (w : World) :
    Calls Try.prog 46 #[txV (.slice A1 n1 c1) nd (.slice A2 n2 c2)] w fun e w' => e = .returned (.func (.func 75) #[] #[.pointer (some ⟨w.heap.size, 0, none⟩)]) ∧ w' = w.alloc (.cells #[.slice A1 n1 c1, .int .i64 nd, .slice A2 n2 c2] 26) := by
  have hmf : ∀ (fn : Fn) (first cap : Array Value) (w : World), (Instr.makeFunc fn first cap).run Try.prog w = .ok (.func fn first cap) w := fun _ _ _ _ => rfl
  go_enter Try.func46, Try.ntmps46
  go_wp2
  go_ret
  exact ⟨rfl, rfl⟩

/-- what has been put aside when the puts ps are over -/
def asideG (F : Int → Int) (ps : List (Int × Int)) : Int → Option Int := fun k => if k ∈ keysP ps then some (addF F ps k) else none

theorem asideG_nil (F : Int → Int) : asideG F [] = fun _ => none := by funext k; simp [asideG, keysP]

theorem asideG_snoc {F : Int → Int} {ps : List (Int × Int)} {x : Int × Int} (h : x.1 ∉ keysP ps) (k : Int) : (if k = x.1 then some (F x.1 + x.2) else asideG F ps k) = asideG F (ps ++ [x]) k := by
  unfold asideG
  have hm : k ∈ keysP (ps ++ [x]) ↔ k ∈ keysP ps ∨ k = x.1 := by simp [keysP]
  have ha := congrFun (addF_snoc (F := F) h) k
  by_cases e : k = x.1
  · subst e
    rw [if_pos rfl, if_pos (hm.2 (.inr rfl)), ha, if_pos rfl]
  · rw [if_neg e]
    by_cases hk : k ∈ keysP ps
    · rw [if_pos hk, if_pos (hm.2 (.inl hk)), ha, if_neg e]
    · rw [if_neg hk, if_neg (fun h2 => by rcases hm.1 h2 with h3 | h3
                                          · exact hk h3
                                          · exact e h3)]

theorem asideG_all (F : Int → Int) (ps : List (Int × Int)) (k : Int) : (asideG F ps k).getD (F k) = addF F ps k := by
  unfold asideG
  by_cases hk : k ∈ keysP ps
  · rw [if_pos hk]; rfl
  · rw [if_neg hk]; simp [addF, dlt_miss hk]

theorem MapG.congr {w : World} {b n : Nat} {G G' : Int → Option Int} (h : MapG w b n G) (hG : ∀ k, G k = G' k) : MapG w b n G' := by
  have : G = G' := funext hG
  subst this; exact h

/-- what a transaction leaves: the map of values turned, or as it was -/
def ActPost (w : World) (b n : Nat) (F : Int → Int) (t : Tx) (e : Ending) (w' : World) : Prop :=
  e = .returned (.bool (okF F t)) ∧ MapF w' b (n + 15) (nextF F t) ∧ Kp (fun k => k = b) w w'

set_option maxRecDepth 100000 in
set_option maxHeartbeats 8000000 in
theorem perform_any {A1 A2 : Option Addr} {n1 n2 c1 c2 b n p : Nat} {nd : Int} {F : Int → Int} {t : Tx} (w : World) (hK : Cs w p 26 #[.slice A1 n1 c1, .int .i64 nd, .slice A2 n2 c2]) (hnd : t.need = nd)
    (hr : RdT w A1 n1 A2 n2 t) (ht : Vtx t) (hM : MapF w b n F) (hFa : ∀ k, amt (F k) = true) (hn : n < 10000) :
    Calls Try.prog 75 #[.map (some b), .pointer (some ⟨p, 0, none⟩)] w (ActPost w b n F t) := by
  have l1 : n1 ≤ 15 := by have := hr.r.len; have := ht.rlen; omega
  have l2 : n2 ≤ 15 := by have := hr.p.len; have := ht.plen; omega
  have hlr := hid hr.r.len
  have hlp := hid hr.p.len
  have hmm := @run_makeMap Try.prog
  have hM' := hid hM
  have hK' := hid hK
  have hr' := hid hr
  have ht' := hid ht
  have hnd' := hid hnd
  have hFa' := hid hFa
  obtain ⟨d0, d1, d2⟩ := hK.tri
  clear hM hK hr ht hnd hFa
  go_enter Try.func75, Try.ntmps75
  go_wp2
  go_loop [4, 14] (fun s i => ∃ (k : Nat) (S : Int), k ≤ n1 ∧ i = .int .i64 k ∧ s = .int .i64 S ∧ 0 ≤ S ∧ S ≤ 999 * k ∧ Hid (sumF F (t.rd.take k) = S)) (fun _ i => n1 - (intOf i).toNat)
  case atStart => exact ⟨0, 0, Nat.zero_le _, rfl, rfl, by omega, by omega, hid rfl⟩
  case round =>
    obtain ⟨k, S, hk, rfl, rfl, hS0, hS1, hS⟩ := hrel
    by_cases hlt : k < n1
    · obtain ⟨ar, z, rfl, hz, hc⟩ := RdI.at' hr'.out.r hlt
      have hkl := hid (show k < t.rd.length by rw [hlr.out]; exact hlt)
      obtain ⟨hz0, hz1⟩ := ht'.out.rd.mem (z := z) (by rw [← hz.out, List.getD_eq_getElem?_getD, List.getElem?_eq_getElem hkl.out]; exact List.getElem_mem hkl.out)
      have hFq := amt_true.1 (hFa'.out z)
      have hN := hid (show sumF F (t.rd.take (k + 1)) = S + F z by rw [take_snocI hkl.out hz.out, sumF_snoc, hS.out])
      obtain ⟨y, hy⟩ : ∃ y, F z = y := ⟨_, rfl⟩
      rw [hy] at hFq hN
      obtain ⟨hy0, hy1⟩ := hFq
      have hy' := hid hy
      clear hy
      go_wp2_with (at_lookup; refine wpList_lookF rfl (.tmp 19) (.tmp 20) rfl (k := z) rfl rfl hM'.out hz0 hz1 ?_; rw [hy'.out])
      go_round
      case rel => exact ⟨k + 1, S + y, by omega, by go_num, rfl, by omega, by omega, hN⟩
      case measure => simp [intOf]; omega
    · have hSf := hid (show sumF F t.rd = S by
        have := hS.out
        rw [List.take_of_length_le (by rw [hlr.out]; omega)] at this
        exact this)
      clear hS hS1
      by_cases hSn : S < nd
      · have R := hid (show okF F t = false from okF_sum (by rw [hSf.out, hnd'.out]; exact hSn))
        go_wp2
        go_ret
        exact ⟨ret_bool R.out.symm, by rw [nextF_no R.out]; exact hM'.out.mono (by omega), Kp.refl _ _⟩
      · have hG0 := hid (MapG.made w)
        have hb0 := hid (below1 w (.map #[] 0))
        obtain ⟨u0, hu0⟩ : ∃ W, w.alloc (.map #[] 0) = W := ⟨_, rfl⟩
        have hzz : u0.heap.size = w.heap.size + 1 := by rw [← hu0]; simp
        rw [hu0] at hG0 hb0
        have hbl := hM'.out.lt
        have hpl := hK'.out.lt
        obtain ⟨q, hq⟩ : ∃ q, w.heap.size = q := ⟨_, rfl⟩
        rw [hq] at hG0 hbl hpl hzz
        have hzz' := hid hzz
        have hzle : q + 1 ≤ u0.heap.size := by omega
        clear hzz
        obtain ⟨f0, f1, f2⟩ := (hK'.out.step hb0.out).tri
        go_upto_region 10 with (fail)
        try rw [hu0]
        try rw [hq]
        replace hu0 := hid hu0
        replace hq := hid hq
        clear d0 d1 d2
        go_wp2
        clear f0 f1 f2
        go_loopw [32] (fun i wr => ∃ k : Nat, k ≤ n2 ∧ i = .int .i64 k ∧ Hid (MapG wr q k (asideG F (t.puts.take k))) ∧ Hid (Kp (fun x => x = q) u0 wr) ∧ Hid (∀ (j : Nat) x, j < k → t.puts[j]? = some x → amt (F x.1 + x.2) = true)) (fun i _ => n2 - (intOf i).toNat)
        case atStart => exact ⟨0, by omega, rfl, hid (by rw [List.take_zero, asideG_nil]; exact hG0.out), hid (Kp.refl _ _), hid (fun j x h => by omega)⟩
        case round =>
          obtain ⟨k, hk, rfl, hG, hkp, hall⟩ := hrel
          have hsz := hkp.out.size
          have hbw := hid (hb0.out.trans (hkp.out.base (B := w.heap.size) hb0.out.size (fun i hi => by subst hi; rw [hq.out]; exact Nat.le_refl _)))
          have hrr := hid (hr'.out.step hbw.out)
          have hMr := hid (hM'.out.step hbw.out)
          obtain ⟨d0, d1, d2⟩ := (hK'.out.step hbw.out).tri
          by_cases hlt : k < n2
          · obtain ⟨bp, off, x, dd, rfl, hx, hbpl, e0, e1⟩ := hrr.out.p.at_ hlt
            have hm := hid (keysP_getD hx.out)
            obtain ⟨hx0, hx1⟩ := ht'.out.puts.mem (z := x) (List.mem_map_of_mem (f := Prod.fst) (List.mem_of_getElem? hx.out))
            obtain ⟨hd0, hd1⟩ := ht'.out.adds (x, dd) (List.mem_of_getElem? hx.out)
            simp only at hd0 hd1
            have hFq := amt_true.1 (hFa'.out x)
            obtain ⟨y, hy⟩ : ∃ y, F x = y := ⟨_, rfl⟩
            rw [hy] at hFq
            obtain ⟨hy0, hy1⟩ := hFq
            have hy' := hid hy
            clear hy
            have hw0 : IntKind.i64.wrap (y + dd) = y + dd := IntWalk.i64_in _ (by omega)
            go_upto_region 13 with (fail)
            obtain ⟨wa, hwa⟩ : ∃ W, wr.alloc (.cells #[.int .i64 x, .int .i64 dd] 33) = W := ⟨_, rfl⟩
            try rw [hwa]
            have hba : Below wr.heap.size wr wa := by rw [← hwa]; exact below1 _ _
            have hkpa := hid (show Cs wa wr.heap.size 33 #[.int .i64 x, .int .i64 dd] by rw [← hwa]; exact Cs.new _ _ _)
            have hkp2 := hid (hkp.out.below_ hba)
            have hMa := hid (hMr.out.step hba)
            have hGa := hid (hG.out.step hba)
            obtain ⟨pp, hpp⟩ : ∃ p, wr.heap.size = p := ⟨_, rfl⟩
            have hqp : q < pp := by have := hG.out.lt; omega
            rw [hpp] at hkpa
            try rw [hpp]
            clear d0 d1 d2 e0 e1 hba hwa hpp
            obtain ⟨p0, p1, -, -⟩ := hkpa.out.two
            cases ha : amt (y + dd) with
            | false =>
              have ha' := hid ha
              have R := hid (show okF F t = false from okF_fit (fitP_bad hx.out (by show amt (F x + dd) = false; rw [hy'.out]; exact ha)))
              clear ha
              go_wp2_with (first
                | (at_lookup; refine wpList_lookF rfl (.tmp 36) (.tmp 38) rfl (k := x) rfl rfl hMa.out hx0 hx1 ?_; rw [hy'.out])
                | (go_at_call 50; (with_reducible refine (amountExists_any _ _).mono ?_); rw [ha'.out]; rintro e w' ⟨rfl, rfl⟩))
              go_ret
              exact ⟨ret_bool R.out.symm, by rw [nextF_no R.out]; exact hMa.out.mono (by omega), (Kp.of_below hb0.out).trans hkp2.out (fun i hi e => by rw [hq.out] at hi; omega)⟩
            | true =>
              have ha' := hid ha
              have hwf : (Lit.int .i64 (y + dd)).wf = true := WalkArith.wf_i64 (by omega)
              have hk40 : k < 1099511627776 := by omega
              have hAll := hid (show ∀ (j : Nat) x, j < k + 1 → t.puts[j]? = some x → amt (F x.1 + x.2) = true from fun j x2 hj hx2 => by
                by_cases e : j = k
                · subst e; rw [hx.out] at hx2; injection hx2 with hx2; subst hx2; show amt (F x + dd) = true; rw [hy'.out]; exact ha
                · exact hall.out j x2 (by omega) hx2)
              have hT := hid (fun i => asideG_snoc (F := F) (x := (x, dd)) (not_mem_take ht'.out.puts hx.out) i)
              clear ha hall
              go_wp2_with (first
                | (at_lookup; refine wpList_lookF rfl (.tmp 36) (.tmp 38) rfl (k := x) rfl rfl hMa.out hx0 hx1 ?_; rw [hy'.out])
                | (go_at_call 50; (with_reducible refine (amountExists_any _ _).mono ?_); rw [ha'.out]; rintro e w' ⟨rfl, rfl⟩)
                | (at_mapUpdate; refine wpList_putG rfl (.tmp 46) (.tmp 48) (.tmp 49) rfl (k := x) (z := y + dd) rfl rfl rfl hGa.out hx0 hx1 hk40 hwf ?_; intro w3 hG3 hg3))
              have hG4 := hid (show MapG w3 q (k + 1) (asideG F (t.puts.take (k + 1))) by
                rw [take_snocP hx.out]
                refine hG3.congr fun i => ?_
                rw [← hT.out i, ← hy'.out])
              go_roundw
              case rel => exact ⟨k + 1, by omega, by go_num, hG4, hid (hkp2.out.grown hg3 (fun i hi => by injection hi with hi; exact .inr hi.symm)), hAll⟩
              case measure => simp [intOf]; omega
          · have hfit := hid (show fitP F t.puts = true from fitP_all fun j x hx => hall.out j x (by have := (List.getElem?_eq_some_iff.1 hx).1; rw [hlp.out] at this; omega) hx)
            have R := hid (show okF F t = true from okF_yes (by rw [hSf.out, hnd'.out]; omega) hfit.out)
            have hGf := hid (show MapG wr q 15 (asideG F t.puts) by
              have := hG.out
              rw [List.take_of_length_le (by rw [hlp.out]; omega)] at this
              exact this.mono (by omega))
            have hbq : b ≠ q := by omega
            have hnn : n + 15 < 1099511627776 := by omega
            go_wp2_with (go_at_call 76; (with_reducible refine (Copy_any _ hMr.out hGf.out hbq hnn).mono ?_); rintro e w4 ⟨rfl, hM4, hg4⟩; have hM4' := hid hM4; have hg4' := hid hg4; clear hM4 hg4)
            go_ret
            refine ⟨ret_bool R.out.symm, by rw [nextF_yes R.out]; exact hM4'.out.congr (fun i _ _ => asideG_all F t.puts i), ?_⟩
            exact ((Kp.of_below hb0.out).trans hkp.out (fun i hi e => by rw [hq.out] at hi; omega)).grown hg4'.out (fun i hi => by injection hi with hi; exact .inr hi.symm)
end Go.Proofs.Yteagmkhpfmiaiaa
