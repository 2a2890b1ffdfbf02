/-
  Contract of the model's CreditsStuck: the walk. No condition but lengths below 2^40.
-/
import Derived.Test.YtgeihcbiahnnaaaCdS
namespace Go.Proofs.Ytgeihcbiahnnaaa
open Go.RowKit
set_option linter.unusedVariables false
set_option linter.unusedSimpArgs false

/-- what CreditsStuck hands back -/
def StPostM (c : Cr) (w : World) (e : Ending) (w' : World) : Prop := ∃ A k, e = .returned (.slice A (stuR c).length k) ∧ OwI w' w.heap.size (.slice A (stuR c).length k) (stuR c) ∧ Below w.heap.size w w'

set_option maxHeartbeats 8000000 in
theorem CreditsStuck_spec {A1 A2 : Option Addr} {n1 n2 c1 c2 : Nat} {c : Cr} (w : World) (hr : RdC w A1 n1 A2 n2 c) :
    Calls Try.prog 25 #[crV (.slice A1 n1 c1) (.slice A2 n2 c2)] w (StPostM c w) := by
  obtain ⟨W, hW⟩ : ∃ W, (w.alloc (.cells #[.slice A1 n1 c1, .slice A2 n2 c2] 25)).alloc (.cells #[] 3) = W := ⟨_, rfl⟩
  have hB := hid (show Below w.heap.size w W by rw [← hW]; exact below2 w _ _)
  have hC := hid (show Cs W w.heap.size 25 #[.slice A1 n1 c1, .slice A2 n2 c2] by rw [← hW]; exact (Cs.new w _ _).alloc _)
  have hO := hid (show OwI W w.heap.size (.slice (some ⟨w.heap.size + 1, 0, none⟩) 0 0) [] by rw [← hW]; exact own_lo (OwI.lit0 (w.alloc (.cells #[.slice A1 n1 c1, .slice A2 n2 c2] 25)) (by simp)) (by simp))
  have hR := hid (hr.step hB.out)
  have hr0 := hid hr
  have b2 := hr.b2
  have l2 := hid hr.len.2
  replace hW := hid hW
  clear hr
  obtain ⟨d0, d1, -, -⟩ := hC.out.two
  cases hv : crB c with
  | false =>
    have hv' := hid hv
    have E := hid (show stuR c = [] by unfold stuR; rw [hv]; rfl)
    clear hv
    go_enter Try.func25, Try.ntmps25
    go_upto_region 2 with (fail)
    rw [hW.out]
    go_wp2_with fail
    refine (CreditsValid_as hv'.out _ hR.out).mono ?_
    rintro e w1 ⟨rfl, hb⟩
    have hB1 := hid (hB.out.trans (hb.mono hB.out.size))
    have hO1 := hid (own_of_block hO.out fun g hg => hb.block g (hO.out.lt g hg).2)
    clear hb
    go_wp2
    go_ret
    exact ⟨some ⟨w.heap.size + 1, 0, none⟩, 0, by rw [E.out]; rfl, by rw [E.out]; exact hO1.out, hB1.out⟩
  | true =>
    have hv' := hid hv
    have E := hid (show stuR c = stuL c by unfold stuR; rw [if_pos hv])
    have hn6 := hid ((crB_true.1 hv).n6)
    have hsetl := hid (fun q (hq : q < c.hs.length) => set_len ((crB_true.1 hv).set q hq))
    have hn7 : n2 ≤ 6 := by rw [← l2.out]; exact hn6.out
    clear hv
    go_enter Try.func25, Try.ntmps25
    go_upto_region 2 with (fail)
    rw [hW.out]
    go_wp2_with fail
    refine (CreditsValid_as hv'.out _ hR.out).mono ?_
    rintro e w1 ⟨rfl, hb⟩
    have hB1 := hid (hB.out.trans (hb.mono hB.out.size))
    have hC1 := hid (hC.out.step hb)
    have hO1 := hid (own_of_block hO.out fun g hg => hb.block g (hO.out.lt g hg).2)
    have hlw : w.heap.size + 1 < w1.heap.size := by
      have h1 := (hO1.out.lt (w.heap.size + 1) rfl).2
      exact h1
    clear hb d0 d1 hB hC hO hR
    obtain ⟨d0, d1, -, -⟩ := hC1.out.two
    obtain ⟨i0, hi, hz0, hz1, hz2⟩ := info_parts info_bl
    go_wp2_with (refine wpList_make_full (P := Try.prog) _ rfl _ _ 67 rfl w.heap.size 4 i0 (.bool false) 1 Try.underlying67 hi hz0 hz1 .i64 .i64 _ _ n2 rfl rfl rfl rfl (by rw [hz2]; omega) (by unfold maxLen; omega) hB1.out.size ?_; intro w2 hown hgr)
    have hbw1 := ((Below.refl w1.heap.size w1).grown hgr (Nat.le_refl _) (fun k h => by cases h))
    have hbw := hid (hB1.out.trans (hbw1.mono hB1.out.size))
    have hCw := hid (hC1.out.step hbw1)
    have hOw := hid (own_of_block hO1.out fun g hg => hbw1.block g (hO1.out.lt g hg).2)
    have hF0 := hid (show OwB w2 w.heap.size w1.heap.size n2 (fun _ => false) by have h1 := hown; rw [show (Value.bool false).cells = #[.bool false] from rfl, madeB] at h1; exact h1)
    have hz12 := hbw1.size
    obtain ⟨lb, hlb⟩ : ∃ lb, w1.heap.size = lb := ⟨_, rfl⟩
    rw [hlb] at hF0 hlw ⊢
    clear hown hgr hi hz0 hz1 hz2 hbw1 d0 d1 hC1 hO1 hB1 hlb hz12
    go_wp2
    go_loopw [5] (fun x wr => ∃ (r : Nat) (F : Nat → Bool), r ≤ n2 + 1 ∧ x = .int .i64 r ∧ Hid (OwB wr w.heap.size lb n2 F) ∧ Hid (Snd c F) ∧ Hid (Cmp c F r) ∧ Hid (Kp (fun b => b = lb) w2 wr)) (fun x _ => n2 + 1 - (intOf x).toNat)
    case atStart => exact ⟨0, _, by omega, rfl, hF0, hid (fun i _ h => by cases h), hid (fun i q _ h => by omega), hid (Kp.refl _ _)⟩
    case round =>
      clear hF0
      obtain ⟨r, F, hrr, rfl, hF, hs, hc, hk⟩ := hrel
      have hBr := hid (hbw.out.trans (hk.out.base (B := w.heap.size) hbw.out.size (fun x e => by omega)))
      have hRr := hid (hr0.out.step hBr.out)
      have hCr := hid (hCw.out.kp hk.out (fun e => by omega))
      obtain ⟨d0, d1, -, -⟩ := hCr.out.two
      by_cases hrn : r ≤ n2
      · have i0 : (0 : Int) ≤ (r : Int) := by omega
        have i1 : (r : Int) ≤ (n2 : Int) := by omega
        go_wp2
        go_loopw [6] (fun x wr => ∃ (i : Nat) (F : Nat → Bool), i ≤ n2 ∧ x = .int .i64 i ∧ Hid (OwB wr w.heap.size lb n2 F) ∧ Hid (Snd c F) ∧ Hid (Cmp c F r) ∧ Hid (Cmi c F r i) ∧ Hid (Kp (fun b => b = lb) w2 wr)) (fun x _ => n2 - (intOf x).toNat)
        case atStart => exact ⟨0, F, by omega, rfl, hF, hs, hc, hid (fun j h => by omega), hk⟩
        case round =>
          clear hF hs hc hk hBr hRr hCr d0 d1
          obtain ⟨i, F, hii, rfl, hF, hs, hc, hm, hk⟩ := hrel
          have hBr := hid (hbw.out.trans (hk.out.base (B := w.heap.size) hbw.out.size (fun x e => by omega)))
          have hRr := hid (hr0.out.step hBr.out)
          have hCr := hid (hCw.out.kp hk.out (fun e => by omega))
          obtain ⟨d0, d1, -, -⟩ := hCr.out.two
          by_cases hin : i < n2
          · have j0 : (0 : Int) ≤ (i : Int) := by omega
            have j1 : (i : Int) < (n2 : Int) := by omega
            have hil : i < c.hs.length := by rw [l2.out]; exact hin
            obtain ⟨b, off, Ai, m, ci, rfl, hb, hm5, e0, e1, hri, hmc, hci, hml⟩ := hRr.out.at_ hin
            obtain ⟨z, hz⟩ : ∃ z, (c.h i).2 = z := ⟨_, rfl⟩
            rw [hz] at e1
            have hz' := hid hz
            obtain ⟨f0, f1⟩ := hF.out.at_ hin
            obtain ⟨fb, hfb⟩ : ∃ fb, F i = fb := ⟨_, rfl⟩
            rw [hfb] at f0
            have hst := hid (fun (x : Bool) => (hF.out.put hin x))
            have hkp := hid (fun (x : Bool) => hk.out.setCell (p := ⟨lb, i, none⟩) (.inr rfl) (.bool x))
            have hnew := hid (show Snd c (setT F i (fb || decide (z < 0))) ∧ Cmp c (setT F i (fb || decide (z < 0))) r ∧ Cmi c (setT F i (fb || decide (z < 0))) r i ∧ Cmk c (setT F i (fb || decide (z < 0))) r i 0 from
              ⟨hs.out.up (fun h hi' => by
                rw [Bool.or_eq_true, decide_eq_true_iff] at h
                rcases h with h | h
                · exact hs.out i hi' (by rw [hfb]; exact h)
                · exact (fdB_iff hi').2 (.inl (by rw [hz]; exact h))), hc.out.up (fun h => by rw [← hfb, h]; rfl), hm.out.up (fun h => by rw [← hfb, h]; rfl), Cmk.zero (fun h => by rw [hz] at h; simp [h])⟩)
            clear hz hm5 hri hfb
            cases fb with
            | true =>
              have hst1 := hid (hst.out true)
              have hkp1 := hid (hkp.out true)
              simp only [Bool.true_or] at hnew
              clear hst hkp
              go_wp2
              go_loopw [7] (fun x wr => ∃ (k : Nat) (F : Nat → Bool), k ≤ n2 ∧ x = .int .i64 k ∧ Hid (OwB wr w.heap.size lb n2 F) ∧ Hid (Snd c F) ∧ Hid (Cmp c F r) ∧ Hid (Cmi c F r i) ∧ Hid (Cmk c F r i k) ∧ Hid (Kp (fun b => b = lb) w2 wr)) (fun x _ => n2 - (intOf x).toNat)
              case atStart => exact ⟨0, _, by omega, rfl, hst1, hid hnew.out.1, hid hnew.out.2.1, hid hnew.out.2.2.1, hid hnew.out.2.2.2, hkp1⟩
              case round =>
                clear hst1 hkp1 hnew hF hs hc hm hk hBr hRr hCr d0 d1 f0 f1 e0 e1
                obtain ⟨k, F, hkk, rfl, hF, hs, hc, hm, hmk, hk⟩ := hrel
                have hBr := hid (hbw.out.trans (hk.out.base (B := w.heap.size) hbw.out.size (fun x e => by omega)))
                have hRr := hid (hr0.out.step hBr.out)
                have hCr := hid (hCw.out.kp hk.out (fun e => by omega))
                obtain ⟨d0, d1, -, -⟩ := hCr.out.two
                by_cases hkn : k < n2
                · have k0 : (0 : Int) ≤ (k : Int) := by omega
                  have k1 : (k : Int) < (n2 : Int) := by omega
                  have hkl : k < c.hs.length := by rw [l2.out]; exact hkn
                  obtain ⟨b', off', Ai', m', ci', ee, hb', -, -, e1, -, -, -, -⟩ := hRr.out.at_ hin
                  injection ee with ee
                  injection ee with ee1 ee2
                  subst ee1; subst ee2
                  obtain ⟨b'', off'', Ak, mk, ck, ee, hb'', hmk', g0, -, hrk, -, -, hmlk⟩ := hRr.out.at_ hkn
                  injection ee with ee
                  injection ee with ee1 ee2
                  subst ee1; subst ee2
                  rw [hz'.out] at e1
                  obtain ⟨f0, f1⟩ := hF.out.at_ hin
                  obtain ⟨q0, -⟩ := hF.out.at_ hkn
                  obtain ⟨fi, hfi⟩ : ∃ x, F i = x := ⟨_, rfl⟩
                  obtain ⟨fk, hfk⟩ : ∃ x, F k = x := ⟨_, rfl⟩
                  obtain ⟨hh, hhh⟩ : ∃ x, hasB (c.h k).1 z = x := ⟨_, rfl⟩
                  rw [hfi] at f0
                  rw [hfk] at q0
                  have hst := hid (fun (x : Bool) => (hF.out.put hin x))
                  have hkp := hid (fun (x : Bool) => hk.out.setCell (p := ⟨lb, i, none⟩) (.inr rfl) (.bool x))
                  have hnx := hid (show Snd c (setT F i (fi || (fk && hh))) ∧ Cmp c (setT F i (fi || (fk && hh))) r ∧ Cmi c (setT F i (fi || (fk && hh))) r i ∧ Cmk c (setT F i (fi || (fk && hh))) r i (k + 1) from
                    ⟨hs.out.up (fun h hi' => by
                      rw [Bool.or_eq_true, Bool.and_eq_true] at h
                      rcases h with h | ⟨h, h'⟩
                      · exact hs.out i hi' (by rw [hfi]; exact h)
                      · exact (fdB_iff hi').2 (.inr ⟨k, hkl, hs.out k hkl (by rw [hfk]; exact h), by rw [hz'.out]; exact hasB_iff.1 (by rw [hhh]; exact h')⟩)), hc.out.up (fun h => by rw [← hfi, h]; rfl), hm.out.up (fun h => by rw [← hfi, h]; rfl),
                      hmk.out.next hc.out (fun h => by rw [← hfi, h]; rfl) (fun h1 h2 => by rw [hz'.out, hhh] at h2; rw [← hfk, h1, h2]; simp)⟩)
                  have hrk' := hid (show RdI wr.drew wr.drew.heap.size Ak mk (c.h k).1 from hrk.out)
                  have hhh' := hid hhh
                  clear hfi hfk hhh hrk hmk' hm hmk hs hc hF hk
                  cases fi with
                  | true =>
                    have hst1 := hid (hst.out true)
                    have hkp1 := hid ((hkp.out true).drew)
                    simp only [Bool.true_or] at hnx
                    clear hst hkp
                    go_wp2_with fail
                    refine wp_region_still_tail 28 (by kernel_rfl) (by kernel_rfl) ?_
                    simp only [List.take_succ_cons, List.take_zero, List.drop_succ_cons, List.drop_zero]
                    refine StillR.of ?_
                    iterate 28 (refine StillR.step (fun K hK => ?_); go_simp; refine hK _ ?_; clear hK K)
                    refine StillR.nil ?_
                    change wpList _ _ _ _ _ wr.drew
                    go_wp2
                    go_roundw
                    case rel => exact ⟨k + 1, _, by omega, by go_num, hid hst1.out, hid hnx.out.1, hid hnx.out.2.1, hid hnx.out.2.2.1, hid hnx.out.2.2.2, hkp1⟩
                    case measure => simp [intOf]; omega
                  | false =>
                    cases fk with
                    | false =>
                      have hst1 := hid (hst.out false)
                      have hkp1 := hid ((hkp.out false).drew)
                      simp only [Bool.false_and, Bool.or_false] at hnx
                      clear hst hkp
                      go_wp2_with fail
                      refine wp_region_still_tail 28 (by kernel_rfl) (by kernel_rfl) ?_
                      simp only [List.take_succ_cons, List.take_zero, List.drop_succ_cons, List.drop_zero]
                      refine StillR.of ?_
                      iterate 28 (refine StillR.step (fun K hK => ?_); go_simp; refine hK _ ?_; clear hK K)
                      refine StillR.nil ?_
                      change wpList _ _ _ _ _ wr.drew
                      go_wp2
                      go_roundw
                      case rel => exact ⟨k + 1, _, by omega, by go_num, hid hst1.out, hid hnx.out.1, hid hnx.out.2.1, hid hnx.out.2.2.1, hid hnx.out.2.2.2, hkp1⟩
                      case measure => simp [intOf]; omega
                    | true =>
                      have hst1 := hid (hst.out hh)
                      have hkp1 := hid ((hkp.out hh).drew)
                      simp only [Bool.true_and, Bool.false_or] at hnx
                      clear hst hkp
                      go_wp2_with fail
                      go_still_tail 28, (by kernel_rfl)
                      still_call ((l1Has_cas hhh'.out _ hrk'.out hmlk).mono fun e w' h => ⟨h.1, h.2.symm⟩)
                      repeat still_step
                      refine wpStill_nil ?_
                      change wpList _ _ _ _ _ wr.drew
                      go_wp2
                      go_roundw
                      case rel => exact ⟨k + 1, _, by omega, by go_num, hid hst1.out, hid hnx.out.1, hid hnx.out.2.1, hid hnx.out.2.2.1, hid hnx.out.2.2.2, hkp1⟩
                      case measure => simp [intOf]; omega
                · obtain rfl : k = n2 := by omega
                  have hkk : ¬ ((k : Int) < (k : Int)) := by omega
                  have hmn := hid (hm.out.next hc.out (by rw [l2.out]; exact hmk.out))
                  refine wp_open_two ?_
                  intro Qc xc
                  replace xc := hid xc
                  go_wp2
                  refine xc.out _ _ ?_
                  clear xc
                  set_option maxRecDepth 20000 in go_wp2
                  go_roundw
                  case rel => exact ⟨i + 1, F, by omega, by go_num, hF, hs, hc, hmn, hk⟩
                  case measure => simp [intOf]; omega
            | false =>
              by_cases hz0 : z < 0
              · have hst1 := hid (hst.out true)
                have hkp1 := hid (hkp.out true)
                have hzt : decide (z < 0) = true := by simp [hz0]
                rw [hzt, Bool.or_true] at hnew
                clear hst hkp
                go_wp2
                go_loopw [7] (fun x wr => ∃ (k : Nat) (F : Nat → Bool), k ≤ n2 ∧ x = .int .i64 k ∧ Hid (OwB wr w.heap.size lb n2 F) ∧ Hid (Snd c F) ∧ Hid (Cmp c F r) ∧ Hid (Cmi c F r i) ∧ Hid (Cmk c F r i k) ∧ Hid (Kp (fun b => b = lb) w2 wr)) (fun x _ => n2 - (intOf x).toNat)
                case atStart => exact ⟨0, _, by omega, rfl, hst1, hid hnew.out.1, hid hnew.out.2.1, hid hnew.out.2.2.1, hid hnew.out.2.2.2, hkp1⟩
                case round =>
                  clear hst1 hkp1 hnew hF hs hc hm hk hBr hRr hCr d0 d1 f0 f1 e0 e1
                  obtain ⟨k, F, hkk, rfl, hF, hs, hc, hm, hmk, hk⟩ := hrel
                  have hBr := hid (hbw.out.trans (hk.out.base (B := w.heap.size) hbw.out.size (fun x e => by omega)))
                  have hRr := hid (hr0.out.step hBr.out)
                  have hCr := hid (hCw.out.kp hk.out (fun e => by omega))
                  obtain ⟨d0, d1, -, -⟩ := hCr.out.two
                  by_cases hkn : k < n2
                  · have k0 : (0 : Int) ≤ (k : Int) := by omega
                    have k1 : (k : Int) < (n2 : Int) := by omega
                    have hkl : k < c.hs.length := by rw [l2.out]; exact hkn
                    obtain ⟨b', off', Ai', m', ci', ee, hb', -, -, e1, -, -, -, -⟩ := hRr.out.at_ hin
                    injection ee with ee
                    injection ee with ee1 ee2
                    subst ee1; subst ee2
                    obtain ⟨b'', off'', Ak, mk, ck, ee, hb'', hmk', g0, -, hrk, -, -, hmlk⟩ := hRr.out.at_ hkn
                    injection ee with ee
                    injection ee with ee1 ee2
                    subst ee1; subst ee2
                    rw [hz'.out] at e1
                    obtain ⟨f0, f1⟩ := hF.out.at_ hin
                    obtain ⟨q0, -⟩ := hF.out.at_ hkn
                    obtain ⟨fi, hfi⟩ : ∃ x, F i = x := ⟨_, rfl⟩
                    obtain ⟨fk, hfk⟩ : ∃ x, F k = x := ⟨_, rfl⟩
                    obtain ⟨hh, hhh⟩ : ∃ x, hasB (c.h k).1 z = x := ⟨_, rfl⟩
                    rw [hfi] at f0
                    rw [hfk] at q0
                    have hst := hid (fun (x : Bool) => (hF.out.put hin x))
                    have hkp := hid (fun (x : Bool) => hk.out.setCell (p := ⟨lb, i, none⟩) (.inr rfl) (.bool x))
                    have hnx := hid (show Snd c (setT F i (fi || (fk && hh))) ∧ Cmp c (setT F i (fi || (fk && hh))) r ∧ Cmi c (setT F i (fi || (fk && hh))) r i ∧ Cmk c (setT F i (fi || (fk && hh))) r i (k + 1) from
                      ⟨hs.out.up (fun h hi' => by
                        rw [Bool.or_eq_true, Bool.and_eq_true] at h
                        rcases h with h | ⟨h, h'⟩
                        · exact hs.out i hi' (by rw [hfi]; exact h)
                        · exact (fdB_iff hi').2 (.inr ⟨k, hkl, hs.out k hkl (by rw [hfk]; exact h), by rw [hz'.out]; exact hasB_iff.1 (by rw [hhh]; exact h')⟩)), hc.out.up (fun h => by rw [← hfi, h]; rfl), hm.out.up (fun h => by rw [← hfi, h]; rfl),
                        hmk.out.next hc.out (fun h => by rw [← hfi, h]; rfl) (fun h1 h2 => by rw [hz'.out, hhh] at h2; rw [← hfk, h1, h2]; simp)⟩)
                    have hrk' := hid (show RdI wr.drew wr.drew.heap.size Ak mk (c.h k).1 from hrk.out)
                    have hhh' := hid hhh
                    clear hfi hfk hhh hrk hmk' hm hmk hs hc hF hk
                    cases fi with
                    | true =>
                      have hst1 := hid (hst.out true)
                      have hkp1 := hid ((hkp.out true).drew)
                      simp only [Bool.true_or] at hnx
                      clear hst hkp
                      go_wp2_with fail
                      refine wp_region_still_tail 28 (by kernel_rfl) (by kernel_rfl) ?_
                      simp only [List.take_succ_cons, List.take_zero, List.drop_succ_cons, List.drop_zero]
                      refine StillR.of ?_
                      iterate 28 (refine StillR.step (fun K hK => ?_); go_simp; refine hK _ ?_; clear hK K)
                      refine StillR.nil ?_
                      change wpList _ _ _ _ _ wr.drew
                      go_wp2
                      go_roundw
                      case rel => exact ⟨k + 1, _, by omega, by go_num, hid hst1.out, hid hnx.out.1, hid hnx.out.2.1, hid hnx.out.2.2.1, hid hnx.out.2.2.2, hkp1⟩
                      case measure => simp [intOf]; omega
                    | false =>
                      cases fk with
                      | false =>
                        have hst1 := hid (hst.out false)
                        have hkp1 := hid ((hkp.out false).drew)
                        simp only [Bool.false_and, Bool.or_false] at hnx
                        clear hst hkp
                        go_wp2_with fail
                        refine wp_region_still_tail 28 (by kernel_rfl) (by kernel_rfl) ?_
                        simp only [List.take_succ_cons, List.take_zero, List.drop_succ_cons, List.drop_zero]
                        refine StillR.of ?_
                        iterate 28 (refine StillR.step (fun K hK => ?_); go_simp; refine hK _ ?_; clear hK K)
                        refine StillR.nil ?_
                        change wpList _ _ _ _ _ wr.drew
                        go_wp2
                        go_roundw
                        case rel => exact ⟨k + 1, _, by omega, by go_num, hid hst1.out, hid hnx.out.1, hid hnx.out.2.1, hid hnx.out.2.2.1, hid hnx.out.2.2.2, hkp1⟩
                        case measure => simp [intOf]; omega
                      | true =>
                        have hst1 := hid (hst.out hh)
                        have hkp1 := hid ((hkp.out hh).drew)
                        simp only [Bool.true_and, Bool.false_or] at hnx
                        clear hst hkp
                        go_wp2_with fail
                        go_still_tail 28, (by kernel_rfl)
                        still_call ((l1Has_cas hhh'.out _ hrk'.out hmlk).mono fun e w' h => ⟨h.1, h.2.symm⟩)
                        repeat still_step
                        refine wpStill_nil ?_
                        change wpList _ _ _ _ _ wr.drew
                        go_wp2
                        go_roundw
                        case rel => exact ⟨k + 1, _, by omega, by go_num, hid hst1.out, hid hnx.out.1, hid hnx.out.2.1, hid hnx.out.2.2.1, hid hnx.out.2.2.2, hkp1⟩
                        case measure => simp [intOf]; omega
                  · obtain rfl : k = n2 := by omega
                    have hkk : ¬ ((k : Int) < (k : Int)) := by omega
                    have hmn := hid (hm.out.next hc.out (by rw [l2.out]; exact hmk.out))
                    refine wp_open_two ?_
                    intro Qc xc
                    replace xc := hid xc
                    go_wp2
                    refine xc.out _ _ ?_
                    clear xc
                    set_option maxRecDepth 20000 in go_wp2
                    go_roundw
                    case rel => exact ⟨i + 1, F, by omega, by go_num, hF, hs, hc, hmn, hk⟩
                    case measure => simp [intOf]; omega
              · have hst1 := hid (hst.out false)
                have hkp1 := hid (hkp.out false)
                have hzt : decide (z < 0) = false := by simp; omega
                rw [hzt, Bool.or_false] at hnew
                clear hst hkp
                go_wp2
                go_loopw [7] (fun x wr => ∃ (k : Nat) (F : Nat → Bool), k ≤ n2 ∧ x = .int .i64 k ∧ Hid (OwB wr w.heap.size lb n2 F) ∧ Hid (Snd c F) ∧ Hid (Cmp c F r) ∧ Hid (Cmi c F r i) ∧ Hid (Cmk c F r i k) ∧ Hid (Kp (fun b => b = lb) w2 wr)) (fun x _ => n2 - (intOf x).toNat)
                case atStart => exact ⟨0, _, by omega, rfl, hst1, hid hnew.out.1, hid hnew.out.2.1, hid hnew.out.2.2.1, hid hnew.out.2.2.2, hkp1⟩
                case round =>
                  clear hst1 hkp1 hnew hF hs hc hm hk hBr hRr hCr d0 d1 f0 f1 e0 e1
                  obtain ⟨k, F, hkk, rfl, hF, hs, hc, hm, hmk, hk⟩ := hrel
                  have hBr := hid (hbw.out.trans (hk.out.base (B := w.heap.size) hbw.out.size (fun x e => by omega)))
                  have hRr := hid (hr0.out.step hBr.out)
                  have hCr := hid (hCw.out.kp hk.out (fun e => by omega))
                  obtain ⟨d0, d1, -, -⟩ := hCr.out.two
                  by_cases hkn : k < n2
                  · have k0 : (0 : Int) ≤ (k : Int) := by omega
                    have k1 : (k : Int) < (n2 : Int) := by omega
                    have hkl : k < c.hs.length := by rw [l2.out]; exact hkn
                    obtain ⟨b', off', Ai', m', ci', ee, hb', -, -, e1, -, -, -, -⟩ := hRr.out.at_ hin
                    injection ee with ee
                    injection ee with ee1 ee2
                    subst ee1; subst ee2
                    obtain ⟨b'', off'', Ak, mk, ck, ee, hb'', hmk', g0, -, hrk, -, -, hmlk⟩ := hRr.out.at_ hkn
                    injection ee with ee
                    injection ee with ee1 ee2
                    subst ee1; subst ee2
                    rw [hz'.out] at e1
                    obtain ⟨f0, f1⟩ := hF.out.at_ hin
                    obtain ⟨q0, -⟩ := hF.out.at_ hkn
                    obtain ⟨fi, hfi⟩ : ∃ x, F i = x := ⟨_, rfl⟩
                    obtain ⟨fk, hfk⟩ : ∃ x, F k = x := ⟨_, rfl⟩
                    obtain ⟨hh, hhh⟩ : ∃ x, hasB (c.h k).1 z = x := ⟨_, rfl⟩
                    rw [hfi] at f0
                    rw [hfk] at q0
                    have hst := hid (fun (x : Bool) => (hF.out.put hin x))
                    have hkp := hid (fun (x : Bool) => hk.out.setCell (p := ⟨lb, i, none⟩) (.inr rfl) (.bool x))
                    have hnx := hid (show Snd c (setT F i (fi || (fk && hh))) ∧ Cmp c (setT F i (fi || (fk && hh))) r ∧ Cmi c (setT F i (fi || (fk && hh))) r i ∧ Cmk c (setT F i (fi || (fk && hh))) r i (k + 1) from
                      ⟨hs.out.up (fun h hi' => by
                        rw [Bool.or_eq_true, Bool.and_eq_true] at h
                        rcases h with h | ⟨h, h'⟩
                        · exact hs.out i hi' (by rw [hfi]; exact h)
                        · exact (fdB_iff hi').2 (.inr ⟨k, hkl, hs.out k hkl (by rw [hfk]; exact h), by rw [hz'.out]; exact hasB_iff.1 (by rw [hhh]; exact h')⟩)), hc.out.up (fun h => by rw [← hfi, h]; rfl), hm.out.up (fun h => by rw [← hfi, h]; rfl),
                        hmk.out.next hc.out (fun h => by rw [← hfi, h]; rfl) (fun h1 h2 => by rw [hz'.out, hhh] at h2; rw [← hfk, h1, h2]; simp)⟩)
                    have hrk' := hid (show RdI wr.drew wr.drew.heap.size Ak mk (c.h k).1 from hrk.out)
                    have hhh' := hid hhh
                    clear hfi hfk hhh hrk hmk' hm hmk hs hc hF hk
                    cases fi with
                    | true =>
                      have hst1 := hid (hst.out true)
                      have hkp1 := hid ((hkp.out true).drew)
                      simp only [Bool.true_or] at hnx
                      clear hst hkp
                      go_wp2_with fail
                      refine wp_region_still_tail 28 (by kernel_rfl) (by kernel_rfl) ?_
                      simp only [List.take_succ_cons, List.take_zero, List.drop_succ_cons, List.drop_zero]
                      refine StillR.of ?_
                      iterate 28 (refine StillR.step (fun K hK => ?_); go_simp; refine hK _ ?_; clear hK K)
                      refine StillR.nil ?_
                      change wpList _ _ _ _ _ wr.drew
                      go_wp2
                      go_roundw
                      case rel => exact ⟨k + 1, _, by omega, by go_num, hid hst1.out, hid hnx.out.1, hid hnx.out.2.1, hid hnx.out.2.2.1, hid hnx.out.2.2.2, hkp1⟩
                      case measure => simp [intOf]; omega
                    | false =>
                      cases fk with
                      | false =>
                        have hst1 := hid (hst.out false)
                        have hkp1 := hid ((hkp.out false).drew)
                        simp only [Bool.false_and, Bool.or_false] at hnx
                        clear hst hkp
                        go_wp2_with fail
                        refine wp_region_still_tail 28 (by kernel_rfl) (by kernel_rfl) ?_
                        simp only [List.take_succ_cons, List.take_zero, List.drop_succ_cons, List.drop_zero]
                        refine StillR.of ?_
                        iterate 28 (refine StillR.step (fun K hK => ?_); go_simp; refine hK _ ?_; clear hK K)
                        refine StillR.nil ?_
                        change wpList _ _ _ _ _ wr.drew
                        go_wp2
                        go_roundw
                        case rel => exact ⟨k + 1, _, by omega, by go_num, hid hst1.out, hid hnx.out.1, hid hnx.out.2.1, hid hnx.out.2.2.1, hid hnx.out.2.2.2, hkp1⟩
                        case measure => simp [intOf]; omega
                      | true =>
                        have hst1 := hid (hst.out hh)
                        have hkp1 := hid ((hkp.out hh).drew)
                        simp only [Bool.true_and, Bool.false_or] at hnx
                        clear hst hkp
                        go_wp2_with fail
                        go_still_tail 28, (by kernel_rfl)
                        still_call ((l1Has_cas hhh'.out _ hrk'.out hmlk).mono fun e w' h => ⟨h.1, h.2.symm⟩)
                        repeat still_step
                        refine wpStill_nil ?_
                        change wpList _ _ _ _ _ wr.drew
                        go_wp2
                        go_roundw
                        case rel => exact ⟨k + 1, _, by omega, by go_num, hid hst1.out, hid hnx.out.1, hid hnx.out.2.1, hid hnx.out.2.2.1, hid hnx.out.2.2.2, hkp1⟩
                        case measure => simp [intOf]; omega
                  · obtain rfl : k = n2 := by omega
                    have hkk : ¬ ((k : Int) < (k : Int)) := by omega
                    have hmn := hid (hm.out.next hc.out (by rw [l2.out]; exact hmk.out))
                    refine wp_open_two ?_
                    intro Qc xc
                    replace xc := hid xc
                    go_wp2
                    refine xc.out _ _ ?_
                    clear xc
                    set_option maxRecDepth 20000 in go_wp2
                    go_roundw
                    case rel => exact ⟨i + 1, F, by omega, by go_num, hF, hs, hc, hmn, hk⟩
                    case measure => simp [intOf]; omega
          · obtain rfl : i = n2 := by omega
            have hkk : ¬ ((i : Int) < (i : Int)) := by omega
            have hcn := hid (hc.out.next (by rw [l2.out]; exact hm.out))
            refine wp_open_two ?_
            intro Qc xc
            replace xc := hid xc
            go_wp2
            refine xc.out _ _ ?_
            clear xc
            set_option maxRecDepth 20000 in go_wp2
            go_roundw
            case rel => exact ⟨r + 1, F, by omega, by go_num, hF, hs, hcn, hk⟩
            case measure => simp [intOf]; omega
      · have hre : r = n2 + 1 := by omega
        have hall := hid (hs.out |> fun h => Cmp.all h (by rw [l2.out, ← hre]; exact hc.out))
        have i1 : ¬ ((r : Int) ≤ (n2 : Int)) := by omega
        have hO2 := hid (own_of_block hOw.out fun g hg => hk.out.block g (hOw.out.lt g hg).2 (fun e => by injection hg with hg; simp only at hg; omega))
        go_wp2
        go_loopw [3, 8] (fun o x wr => ∃ (k : Nat), k ≤ n2 ∧ x = .int .i64 k ∧ Hid (OwB wr w.heap.size lb n2 F) ∧ Hid (OwI wr w.heap.size o (((List.range k).filter fun i => !fdB c i).map (fun (i : Nat) => (i : Int)))) ∧ Hid (Cs wr w.heap.size 25 #[.slice A1 n1 c1, .slice A2 n2 c2]) ∧ Hid (Below w.heap.size w wr)) (fun _ x _ => n2 - (intOf x).toNat)
        case atStart => exact ⟨0, by omega, rfl, hF, hO2, hCr, hBr⟩
        case round =>
          clear hF hO2 hk hs hc hBr hRr hCr d0 d1 hrr
          obtain ⟨k, hkk, rfl, hF, hO, hCr, hBr⟩ := hrel
          obtain ⟨d0, d1, -, -⟩ := hCr.out.two
          by_cases hkn : k < n2
          · have k0 : (0 : Int) ≤ (k : Int) := by omega
            have k1 : (k : Int) < (n2 : Int) := by omega
            obtain ⟨f0, f1⟩ := hF.out.at_ hkn
            have hfk := hall.out k (by rw [l2.out]; exact hkn)
            rw [hfk] at f0
            have hnx := hid (stu_take (c := c) (k := k))
            clear hfk
            cases hfd : fdB c k with
            | true =>
              rw [hfd] at f0 hnx
              have hnx2 := hid (show ((List.range (k + 1)).filter fun i => !fdB c i).map (fun (i : Nat) => (i : Int)) = ((List.range k).filter fun i => !fdB c i).map (fun (i : Nat) => (i : Int)) by rw [hnx.out]; simp)
              clear hfd hnx
              go_wp2
              go_roundw
              case rel => exact ⟨k + 1, by omega, by go_num, hF, hid (by rw [hnx2.out]; exact hO.out), hCr, hBr⟩
              case measure => simp [intOf]; omega
            | false =>
              rw [hfd] at f0 hnx
              have hnx2 := hid (show ((List.range (k + 1)).filter fun i => !fdB c i).map (fun (i : Nat) => (i : Int)) = ((List.range k).filter fun i => !fdB c i).map (fun (i : Nat) => (i : Int)) ++ [(k : Int)] by rw [hnx.out]; simp)
              have hoo := hid (own_of_block (w' := wr.alloc (.cells #[.int .i64 k] 3)) hO.out fun g hg => Below.heap_alloc wr _ g (hO.out.lt g hg).2)
              have hlit := hid (show RdI (wr.alloc (.cells #[.int .i64 k] 3)) (wr.heap.size + 1) (some ⟨wr.heap.size, 0, none⟩) 1 [(k : Int)] from ⟨rfl, fun _ => ⟨_, rfl, by simp, fun j u hj => by
                match j, hj with
                | 0, hj => simp at hj; subst hj; exact (Cs.new wr 3 #[.int .i64 k]).cell 0⟩⟩)
              have hlen : (((List.range k).filter fun i => !fdB c i).map (fun (i : Nat) => (i : Int))).length ≤ k := by
                rw [List.length_map]
                exact Nat.le_trans (List.length_filter_le _ _) (by simp)
              have hsz := hBr.out.size
              clear hfd hnx
              go_wp2_with (at_builtin; refine wpList_appH2 rfl (.tmp 95) (.tmp 97) rfl (B := w.heap.size) rfl rfl hoo.out hlit.out (by simp; omega) (by omega) ?_; intro v1 w3 hv1 hg1 hk1)
              have hBa := hid ((hBr.out.alloc (o := .cells #[.int .i64 k] 3) hsz).grown hg1 (by simp; omega) (fun g hg => (hO.out.lt g hg).1))
              have hFa := hid (own_of_blk hF.out fun g hg => (hg1.block g (by simp; have := (hF.out.lt g hg).2; omega) (fun e => own_type hO.out hF.out (by decide) g e.symm hg)).trans (Below.heap_alloc wr _ g (hF.out.lt g hg).2))
              have hCa := hid (show Cs w3 w.heap.size 25 #[.slice A1 n1 c1, .slice A2 n2 c2] from (hg1.block _ (by simp; have := hCr.out.lt; omega) (fun e => cs_type hCr.out hO.out (by decide) e.symm)).trans ((Below.heap_alloc wr _ _ hCr.out.lt).trans hCr.out))
              have hOa := hid (show OwI w3 w.heap.size v1 (((List.range (k + 1)).filter fun i => !fdB c i).map (fun (i : Nat) => (i : Int))) by rw [hnx2.out]; exact hv1)
              clear hoo hlit hv1 hg1 hk1 hlen
              go_wp2
              go_roundw
              case rel => exact ⟨k + 1, by omega, by go_num, hFa, hOa, hCa, hBa⟩
              case measure => simp [intOf]; omega
          · obtain rfl : k = n2 := by omega
            have hkk : ¬ ((k : Int) < (k : Int)) := by omega
            have hfin := hid (show ((List.range k).filter fun i => !fdB c i).map (fun (i : Nat) => (i : Int)) = stuR c by rw [E.out]; unfold stuL; rw [l2.out])
            have hOO := hO.out
            rw [hfin.out] at hOO
            obtain ⟨A, cc, e, -⟩ := hOO.form
            have hOO' := hid hOO
            subst e
            clear hOO
            go_wp2
            go_ret
            exact ⟨A, cc, rfl, hOO'.out, hBr.out⟩
end Go.Proofs.Ytgeihcbiahnnaaa
