/-
  The model's checks of states and transactions. No condition but lengths below 2^40.
-/
import Derived.Test.YteagmkhpfmiaiaaSoB
import Derived.Deep.RegionHeld3
import Derived.Deep.CutBlock
import Derived.Deep.RegionLaw
import Derived.Deep.DeepCutAuto
namespace Go.Proofs.Yteagmkhpfmiaiaa
open Go.RowKit
set_option linter.unusedVariables false
set_option linter.unusedSimpArgs false

/-- a transaction by value: its reads, its need, its puts -/
abbrev txV (R : Value) (n : Int) (P : Value) : Value := .agg #[R, .int .i64 n, P]
/-- what the two slices of a transaction read as -/
structure RdT (w : World) (A1 : Option Addr) (n1 : Nat) (A2 : Option Addr) (n2 : Nat) (t : Tx) : Prop where
  r : RdI w w.heap.size A1 n1 t.rd
  p : RdP w A2 n2 t.puts
  l1 : n1 < 1099511627776
  l2 : n2 < 1099511627776
section
variable {w w' : World} {A1 A2 : Option Addr} {n1 n2 b : Nat} {t : Tx} {a0 a1 a2 : Value} {T : TypeId}

theorem RdI.stp {A : Option Addr} {n : Nat} {zs : List Int} (h : RdI w w.heap.size A n zs) (hb : Below w.heap.size w w') : RdI w' w'.heap.size A n zs := (h.below hb).more hb.size

theorem RdT.step (h : RdT w A1 n1 A2 n2 t) (hb : Below w.heap.size w w') : RdT w' A1 n1 A2 n2 t := ⟨h.r.stp hb, h.p.step hb, h.l1, h.l2⟩

theorem RdT.quiet (h : RdT w A1 n1 A2 n2 t) (hq : Qt w w') : RdT w' A1 n1 A2 n2 t := h.step (hq.below _)

theorem Cs.tri (h : Cs w b T #[a0, a1, a2]) : w.cell? ⟨b, 0, none⟩ = some a0 ∧ w.cell? ⟨b, 1, none⟩ = some a1 ∧ w.cell? ⟨b, 2, none⟩ = some a2 := ⟨h.cell 0, h.cell 1, h.cell 2⟩

theorem Cs.triF {cs : Array Value} (h : Cs w b T cs) : w.frozen? ⟨b, 0, none⟩ = false ∧ w.frozen? ⟨b, 1, none⟩ = false ∧ w.frozen? ⟨b, 2, none⟩ = false := ⟨h.frozen 0, h.frozen 1, h.frozen 2⟩

theorem Qt.cs {cs : Array Value} (h : Cs w b T cs) (hq : Qt w w') : Cs w' b T cs := h.step (hq.below _)

theorem vtx_rd (h : ¬ Asc t.rd) : vtx t = false := vtx_false fun k => h k.rd

theorem vtx_puts (h : ¬ Asc (keysP t.puts)) : vtx t = false := vtx_false fun k => h k.puts

theorem vtx_adds (h : ¬ AddOk t.puts) : vtx t = false := vtx_false fun k => h k.adds

theorem vtx_fin (h1 : Asc t.rd) (h2 : Asc (keysP t.puts)) (h3 : AddOk t.puts) : vtx t = (decide (0 < t.rd.length + t.puts.length) && inB t.need 0 14985) := by
  unfold vtx
  rw [decide_eq_true h1, decide_eq_true h2, decide_eq_true h3]
  rfl

theorem asc_full {l : List Int} {n : Nat} (hl : l.length = n) (h : AscTo l n) : Asc l := by subst hl; exact h

theorem addOk_full {ps : List (Int × Int)} {n : Nat} (hl : ps.length = n) (h : ∀ k x, k < n → ps[k]? = some x → inB x.2 (-999) 999 = true) : AddOk ps := fun p hp => by
  obtain ⟨k, hk⟩ := List.getElem?_of_mem hp
  have := h k p (by rw [← hl]; exact (List.getElem?_eq_some_iff.1 hk).1) hk
  exact inB_true.1 this

theorem addOk_bad {ps : List (Int × Int)} {k : Nat} {x : Int × Int} (hk : ps[k]? = some x) (h : inB x.2 (-999) 999 = false) : ¬ AddOk ps := fun ha => by
  have := inB_true.2 (ha x (List.mem_of_getElem? hk))
  rw [h] at this; cases this
end

set_option maxHeartbeats 400000 in
theorem l31Key_any (n : Int) (w : World) :
    Calls Try.prog 58 #[.int .i64 n] w fun e w' => e = .returned (.bool (inB n 0 14)) ∧ w = w' := by
  go_enter Try.func58, Try.ntmps58
  go_wp2_with (go_at_call 59; refine (l6In_any _ _ _ _).mono ?_; rintro e w' ⟨rfl, rfl⟩)
  go_ret
  exact ⟨rfl, rfl⟩

set_option maxHeartbeats 1000000 in
theorem StoreValid_spec {B n c : Nat} {A : Option Addr} {zs : List Int} (w : World) (hr : RdI w B A n zs) (hn : n < 1099511627776) :
    Calls Try.prog 37 #[.slice A n c] w fun e w' => e = .returned (.bool (vst zs)) ∧ w = w' := by
  have hl' := hid hr.len
  have hr' := hid hr
  clear hr
  go_enter Try.func37, Try.ntmps37
  go_wp2
  go_loop [3] (fun i => ∃ k : Nat, k ≤ n ∧ i = .int .i64 k ∧ Hid (∀ j, j < k → amt (zs.getD j 0) = true)) (fun i => n - (intOf i).toNat)
  case atStart => exact ⟨0, Nat.zero_le _, rfl, hid (fun j h => by omega)⟩
  case round =>
    obtain ⟨k, hk, rfl, hall⟩ := hrel
    by_cases hlt : k < n
    · obtain ⟨ad, z, rfl, hz, hc⟩ := hr'.out.at' hlt
      cases ha : inB z 0 999 with
      | true =>
        have ha' := hid ha
        clear ha
        go_wp2_with (go_at_call 59; (with_reducible refine (l6In_any _ _ _ _).mono ?_); rw [ha'.out]; rintro e w' ⟨rfl, rfl⟩)
        go_round
        case rel => exact ⟨k + 1, by omega, by go_num, hid (fun j hj => by
            by_cases e : j = k
            · subst e; rw [hz.out]; exact ha'.out
            · exact hall.out j (by omega))⟩
        case measure => simp [intOf]; omega
      | false =>
        have ha' := hid ha
        have hbad := hid (vst_bad (zs := zs) (k := k) (by rw [hl'.out]; exact hlt) hz.out ha)
        clear ha
        go_wp2_with (go_at_call 59; (with_reducible refine (l6In_any _ _ _ _).mono ?_); rw [ha'.out]; rintro e w' ⟨rfl, rfl⟩)
        go_ret
        exact ⟨ret_bool hbad.out.symm, rfl⟩
    · have hfin := hid (vst_all (zs := zs) (fun i hi => hall.out i (by rw [hl'.out] at hi; omega)))
      rw [hl'.out] at hfin
      by_cases h15 : n = 15
      · have hb : ((n : Int) == 15) = true := by simp [h15]
        have R := hid (show vst zs = true by rw [hfin.out]; simp [h15])
        clear hfin h15
        go_wp2
        go_ret
        exact ⟨ret_bool R.out.symm, rfl⟩
      · have hb : ((n : Int) == 15) = false := by rw [beq_eq_false_iff_ne]; omega
        have R := hid (show vst zs = false by rw [hfin.out]; simp [h15])
        clear hfin h15
        go_wp2
        go_ret
        exact ⟨ret_bool R.out.symm, rfl⟩

set_option maxRecDepth 100000 in
set_option maxHeartbeats 8000000 in
theorem TxnValid_spec {A1 A2 : Option Addr} {n1 n2 c1 c2 : Nat} {t : Tx} (w : World) (hr : RdT w A1 n1 A2 n2 t) :
    Calls Try.prog 26 #[txV (.slice A1 n1 c1) t.need (.slice A2 n2 c2)] w fun e w' => e = .returned (.bool (vtx t)) ∧ Below w.heap.size w w' := by
  obtain ⟨u0, hu0⟩ : ∃ W, w.alloc (.cells #[.slice A1 n1 c1, .int .i64 t.need, .slice A2 n2 c2] 26) = W := ⟨_, rfl⟩
  have hbb : Below w.heap.size w u0 := by rw [← hu0]; exact below1 _ _
  have hK := hid (show Cs u0 w.heap.size 26 #[.slice A1 n1 c1, .int .i64 t.need, .slice A2 n2 c2] by rw [← hu0]; exact Cs.new _ _ _)
  have hr2 := hid (hr.step hbb)
  have l1 := hr.l1
  have l2 := hr.l2
  have hlr := hid hr.r.len
  have hlp := hid hr.p.len
  obtain ⟨xb, hxb⟩ : ∃ b, w.heap.size = b := ⟨_, rfl⟩
  obtain ⟨nd, hnd⟩ : ∃ x, t.need = x := ⟨_, rfl⟩
  have hB := hid hbb
  rw [hxb] at hK
  rw [hnd] at hK hu0
  replace hu0 := hid hu0
  replace hnd := hid hnd
  clear hr hbb
  go_enter Try.func26, Try.ntmps26
  go_upto_region 1 with (fail)
  rw [hnd.out, hu0.out]
  try rw [hxb]
  replace hxb := hid hxb
  go_wp2
  go_loopw [3] (fun i wr => ∃ k : Nat, k ≤ n1 ∧ i = .int .i64 k ∧ Qt u0 wr ∧ Hid (AscTo t.rd k)) (fun i _ => n1 - (intOf i).toNat)
  case atStart => exact ⟨0, Nat.zero_le _, rfl, Qt.refl _, hid (AscTo.zero _)⟩
  case round =>
    obtain ⟨k, hk, rfl, hq, hasc⟩ := hrel
    have hrr := hid (hr2.out.quiet hq)
    obtain ⟨d0, d1, d2⟩ := (Qt.cs hK.out hq).tri
    by_cases hlt : k < n1
    · obtain ⟨ad, z, rfl, hz, hc⟩ := RdI.at' hrr.out.r hlt
      have hkl := hid (show k < t.rd.length by rw [hlr.out]; exact hlt)
      cases hg : inB z 0 14 with
      | false =>
        have R := hid (vtx_rd (Asc.not_of hkl.out hz.out (by have := inB_false.1 hg; omega)))
        go_wp2
        go_quiet ((go_at_call 58; exact same_call (l31Key_any _ _)))
        go_wp2
        go_ret
        exact ⟨ret_bool R.out.symm, hB.out.trans ((hq.drewN _).below _)⟩
      | true =>
        have hgg := hid (inB_true.1 hg)
        rcases Nat.eq_zero_or_pos k with h0 | h0
        · have hd : decide (0 < k) = false := by simp; omega
          have hN := hid (hasc.out.succ hz.out hgg.out.1 hgg.out.2 (fun h => by omega))
          clear h0
          go_wp2
          go_quiet ((go_at_call 58; exact same_call (l31Key_any _ _)))
          go_wp2
          go_roundw
          case rel => exact ⟨k + 1, by omega, by go_num, hq.drewN _, hN⟩
          case measure => simp [intOf]; omega
        · have hd : decide (0 < k) = true := by simp; omega
          obtain ⟨ad2, y, e2, hy, hc2⟩ := RdI.at' hrr.out.r (k := k - 1) (by omega)
          obtain rfl : ad = ad2 := by injection e2
          clear e2
          have hw : IntKind.i64.wrap ((k : Int) - 1) = (k : Int) - 1 := IntWalk.i64_in _ (by omega)
          have hp : (1 : Int) ≤ (k : Int) := by omega
          have hp' : (0 : Int) ≤ (k : Int) - 1 := by omega
          have ht : ((k : Int) - 1).toNat = k - 1 := by omega
          have hlt' : (k : Int) - 1 < (n1 : Int) := by omega
          have H0 := hid h0
          have E := hid (show lastK t.rd k = y by unfold lastK; rw [if_neg (by have := H0.out; omega)]; exact hy.out)
          go_wp2
          go_quiet ((go_at_call 58; exact same_call (l31Key_any _ _)))
          clear hw ht
          go_wp2
          · have h1 : z ≤ y := by assumption
            go_ret
            exact ⟨ret_bool (vtx_rd (Asc.not_last hkl.out hz.out (by rw [E.out]; exact h1))).symm, hB.out.trans ((hq.drewN _).below _)⟩
          · have h1 : y < z := by assumption
            have hN := hid (hasc.out.last hz.out (by rw [E.out]; exact h1) hgg.out.2)
            go_roundw
            case rel => exact ⟨k + 1, by omega, by go_num, hq.drewN _, hN⟩
            case measure => simp [intOf]; omega
    · have hA := hid (asc_full hlr.out (by have e : k = n1 := by omega
                                           rw [← e]; exact hasc.out))
      go_wp2
      clear hk hlt hasc d0 d1 d2
      obtain ⟨v0, hv0⟩ : ∃ v, v = wr := ⟨_, rfl⟩
      subst hv0
      have hK2 := hid (Qt.cs hK.out hq)
      have hB2 := hid (hB.out.trans (hq.below _))
      clear hq
      go_loopw [4] (fun i wr => ∃ k : Nat, k ≤ n2 ∧ i = .int .i64 k ∧ Qt v0 wr ∧ Hid (AscTo (keysP t.puts) k) ∧ Hid (∀ j x, j < k → t.puts[j]? = some x → inB x.2 (-999) 999 = true)) (fun i _ => n2 - (intOf i).toNat)
      case atStart => exact ⟨0, Nat.zero_le _, rfl, Qt.refl _, hid (AscTo.zero _), hid (fun j x h => by omega)⟩
      case round =>
        obtain ⟨k, hk, rfl, hq, hasc, hadd⟩ := hrel
        have hrp := hid (hrr.out.quiet hq)
        obtain ⟨d0, d1, d2⟩ := (Qt.cs hK2.out hq).tri
        by_cases hlt : k < n2
        · obtain ⟨b, off, x, g, rfl, hx, hbl, e0, e1⟩ := hrp.out.p.at_ hlt
          have hkl := hid (show k < (keysP t.puts).length by rw [keysP_len, hlp.out]; exact hlt)
          have hz := hid (keysP_getD hx.out)
          cases hg : inB x 0 14 with
          | false =>
            have R := hid (vtx_puts (Asc.not_of hkl.out hz.out (by have := inB_false.1 hg; omega)))
            go_wp2
            go_quiet ((go_at_call 58; exact same_call (l31Key_any _ _)))
            go_wp2
            go_ret
            exact ⟨ret_bool R.out.symm, hB2.out.trans ((hq.drewN _).below _)⟩
          | true =>
            have hgg := hid (inB_true.1 hg)
            cases ha : inB g (-999) 999 with
            | false =>
              have R := hid (vtx_adds (addOk_bad hx.out ha))
              go_wp2
              go_quiet ((first | (go_at_call 58; exact same_call (l31Key_any _ _)) | (go_at_call 59; exact same_call (l6In_any _ _ _ _))))
              go_wp2
              go_ret
              exact ⟨ret_bool R.out.symm, hB2.out.trans ((hq.drewN _).below _)⟩
            | true =>
              have hN2 := hid (show ∀ j x, j < k + 1 → t.puts[j]? = some x → inB x.2 (-999) 999 = true from fun j y hj hy => by
                by_cases e : j = k
                · subst e; rw [hx.out] at hy; injection hy with hy; subst hy; exact ha
                · exact hadd.out j y (by omega) hy)
              rcases Nat.eq_zero_or_pos k with h0 | h0
              · have hd : decide (0 < k) = false := by simp; omega
                have hN := hid (hasc.out.succ hz.out hgg.out.1 hgg.out.2 (fun h => by omega))
                clear h0
                go_wp2
                go_quiet ((first | (go_at_call 58; exact same_call (l31Key_any _ _)) | (go_at_call 59; exact same_call (l6In_any _ _ _ _))))
                go_wp2
                go_roundw
                case rel => exact ⟨k + 1, by omega, by go_num, hq.drewN _, hN, hN2⟩
                case measure => simp [intOf]; omega
              · have hd : decide (0 < k) = true := by simp; omega
                obtain ⟨b', off', y, g', e2, hy, hbl', f0, f1⟩ := hrp.out.p.at_ (k := k - 1) (by omega)
                injection e2 with e2
                injection e2 with e3 e4
                subst e3; subst e4
                have hw : IntKind.i64.wrap ((k : Int) - 1) = (k : Int) - 1 := IntWalk.i64_in _ (by omega)
                have hp : (1 : Int) ≤ (k : Int) := by omega
                have hp' : (0 : Int) ≤ (k : Int) - 1 := by omega
                have ht : ((k : Int) - 1).toNat = k - 1 := by omega
                have hlt' : (k : Int) - 1 < (n2 : Int) := by omega
                have H0 := hid h0
                have E := hid (show lastK (keysP t.puts) k = y by unfold lastK; rw [if_neg (by have := H0.out; omega)]; exact keysP_getD hy.out)
                go_wp2
                go_quiet ((first | (go_at_call 58; exact same_call (l31Key_any _ _)) | (go_at_call 59; exact same_call (l6In_any _ _ _ _))))
                clear hw ht
                go_wp2
                · have h1 : x ≤ y := by assumption
                  go_ret
                  exact ⟨ret_bool (vtx_puts (Asc.not_last hkl.out hz.out (by rw [E.out]; exact h1))).symm, hB2.out.trans ((hq.drewN _).below _)⟩
                · have h1 : y < x := by assumption
                  have hN := hid (hasc.out.last hz.out (by rw [E.out]; exact h1) hgg.out.2)
                  go_roundw
                  case rel => exact ⟨k + 1, by omega, by go_num, hq.drewN _, hN, hN2⟩
                  case measure => simp [intOf]; omega
        · have F := hid (vtx_fin hA.out (asc_full (by rw [keysP_len, hlp.out]) (by have e : k = n2 := by omega
                                                                                   rw [← e]; exact hasc.out)) (addOk_full hlp.out (fun j x hj hx => hadd.out j x (by omega) hx)))
          rw [hlr.out, hlp.out, hnd.out] at F
          have hBf := hid (hB2.out.trans (hq.below _))
          clear hk hasc hadd
          by_cases hs : 0 < n1 + n2
          · have R := hid (show vtx t = inB nd 0 14985 by rw [F.out, decide_eq_true hs]; rfl)
            have hs' : (0 : Int) < (n1 : Int) + (n2 : Int) := by omega
            clear hs F
            go_wp2_with (go_at_call 59; (with_reducible refine (l6In_any _ _ _ _).mono ?_); rintro e w' ⟨rfl, rfl⟩)
            go_ret
            exact ⟨ret_bool R.out.symm, hBf.out⟩
          · have R := hid (show vtx t = false by rw [F.out, decide_eq_false hs]; rfl)
            have hs' : ¬ (0 : Int) < (n1 : Int) + (n2 : Int) := by omega
            clear hs F
            go_wp2_with (go_at_call 59; (with_reducible refine (l6In_any _ _ _ _).mono ?_); rintro e w' ⟨rfl, rfl⟩)
            go_ret
            exact ⟨ret_bool R.out.symm, hBf.out⟩
end Go.Proofs.Yteagmkhpfmiaiaa
