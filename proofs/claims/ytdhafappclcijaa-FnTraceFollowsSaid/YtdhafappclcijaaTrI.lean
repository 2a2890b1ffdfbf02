/-
  Contracts of the program's chapter 21: TracesValid, TraceOrder, TraceFollows (imported) and TraceCycle. No condition but lengths below 2^40.
-/
import Derived.Test.YtdhafappclcijaaTrH
import Derived.Test.YtdhafappclcijaaTpE
import Derived.Test.YtdhafappclcijaaTpF
import Derived.Test.YtdhafappclcijaaTpJ
namespace Go.Proofs.Ytdhafappclcijaa
open Go.RowKit
set_option linter.unusedVariables false
set_option linter.unusedSimpArgs false

theorem step_none {nx : Int → Int → Bool} {best : List Int} {m : Int} (h : pathB nx m = []) : stepC nx best m = best := by
  unfold stepC; rw [if_neg (fun k => k.1 h)]

theorem step_keep {nx : Int → Int → Bool} {best : List Int} {m : Int} (h0 : 0 < best.length) (h : ¬ (pathB nx m).length < best.length) : stepC nx best m = best := by
  unfold stepC
  rw [if_neg]
  rintro ⟨_, h2 | h2⟩
  · rw [h2] at h0; simp at h0
  · exact h h2

theorem step_take {nx : Int → Int → Bool} {best : List Int} {m : Int} (h0 : 0 < (pathB nx m).length) (h : best.length = 0 ∨ (pathB nx m).length < best.length) : stepC nx best m = pathB nx m := by
  unfold stepC
  rw [if_pos]
  refine ⟨fun e => ?_, ?_⟩
  · rw [e] at h0; simp at h0
  · rcases h with h | h
    · exact .inl (List.eq_nil_of_length_eq_zero h)
    · exact .inr h

theorem nx_off {zss : List (List Int)} (hv : ∀ t ∈ zss, trB t = true) {k : Nat} (hk : k < 12) (dk : Dn zss k = false) (b : Int) : nxT zss (k : Int) b = false := by
  cases h : nxT zss (k : Int) b with
  | false => rfl
  | true =>
    have := (nxT_all hv _ _ h).1
    rw [mem_allN hk, dk] at this; cases this

set_option maxHeartbeats 4000000 in
theorem TraceCycle_impl {n c : Nat} {A : Option Addr} {zss : List (List Int)} (w : World) (hr : RdT w w.heap.size A n zss) (hn : n < 1099511627776) (hs : ShT zss) :
    Calls Try.prog 22 #[.slice A n c] w (NewI w (tcR zss)) := by
  have hr' := hid hr
  have hs' := hid hs
  clear hr hs
  cases hv : trsB zss with
  | false =>
    have hto := hid (show tcR zss = [] by unfold tcR; rw [hv]; rfl)
    have hv' := hid hv
    clear hv
    go_enter Try.func22, Try.ntmps22
    go_wp2_with fail
    refine (TracesValid_ias hv'.out _ hr'.out hn hs'.out).mono ?_
    rintro e w1 ⟨rfl, hq1⟩
    have hz := hq1.size
    have he := hid (OwI.empty_lit (B := w.heap.size) w1 (by omega))
    have hb := hid (hq1.alloc (by omega) (.cells #[] 3))
    clear hq1
    go_wp2
    go_ret
    exact ⟨_, rfl, by rw [hto.out]; exact he.out, hb.out⟩
  | true =>
    have hto := hid (show tcR zss = cycB (nxT zss) by unfold tcR; rw [hv]; rfl)
    have hv' := hid hv
    have hvt := hid (trsB_true.1 hv).1
    have hrng := hid (nxT_rng hvt.out)
    clear hv
    go_enter Try.func22, Try.ntmps22
    go_wp2_with fail
    refine (TracesValid_ias hv'.out _ hr'.out hn hs'.out).mono ?_
    rintro e w1 ⟨rfl, hq1⟩
    have hz1 := hq1.size
    obtain ⟨W2, hW2⟩ : ∃ W2, w1.alloc (.cells #[] 3) = W2 := ⟨_, rfl⟩
    have B2 := hid (show Below w.heap.size w W2 by rw [← hW2]; exact hq1.alloc hz1 _)
    have O2 := hid (show OwI W2 w.heap.size (.slice (some ⟨w1.heap.size, 0, none⟩) 0 0) [] by rw [← hW2]; exact OwI.empty_lit (B := w.heap.size) w1 (by omega))
    have hz2 := B2.out.size
    have R2 := hid (hr'.out.step B2.out)
    have hW2' := hid hW2
    clear hq1 hW2
    go_upto_region 4 with (fail)
    rw [hW2'.out]
    go_wp2_with fail
    refine (linkedMessages_any _ R2.out hn hv'.out).mono ?_
    rintro e w3 ⟨P, rfl, hG3, hb3⟩
    have B3 := hid (B2.out.trans (hb3.mono hz2))
    have hz3 := hb3.size
    have O3 := hid (O2.out.below hb3)
    have hG := hid (show Gr w3 w.heap.size P (Dn zss) (fun a b => En zss b a) (fun a b => nxT zss (a : Int) (b : Int)) from hG3.more hz2)
    have hix := hid (fun (k : Nat) (hk : k < 12) W => run_index_links hk P (Dn zss) W)
    clear hG3 hb3 O2 R2 B2 hW2'
    go_wp2
    go_loopw [3, 14] (fun v i wr => ∃ k : Nat, k ≤ 12 ∧ i = .int .i64 k ∧ Hid (OwI wr w.heap.size v (cycTo (nxT zss) k)) ∧ Hid (Below w.heap.size w wr) ∧ Hid (Below w3.heap.size w3 wr)) (fun _ i _ => 12 - (intOf i).toNat)
    case atStart => exact ⟨0, by omega, rfl, O3, B3, hid (Below.refl _ _)⟩
    case round =>
      clear O3 B3
      obtain ⟨k, hk, rfl, hO, hB, hB3⟩ := hrel
      by_cases hlt : k < 12
      · have i0 : (0 : Int) ≤ (k : Int) := by omega
        have i1 : (k : Int) < 12 := by omega
        have hi := hix.out k hlt
        have hsu := cycTo_succ (nxT zss) k
        have hGr := hid (hG.out.step hB3.out)
        obtain ⟨vA, vC, e9, -⟩ := hO.out.form
        subst e9
        cases dk : Dn zss k with
        | false =>
          rw [pV, pO_false dk] at hi
          have hsu2 := hid (hsu.trans (step_none (path_none hrng.out hlt (nx_off hvt.out hlt dk))))
          clear hsu dk
          go_wp2
          go_roundw
          case rel => exact ⟨k + 1, by omega, by go_num, by rw [hsu2.out]; exact hO, hB, hB3⟩
          case measure => simp [intOf]; omega
        | true =>
          rw [pV, pO_true dk] at hi
          have hcy := hid (cycle_any hGr.out hrng.out hlt dk)
          clear dk
          go_wp2_with fail
          refine hcy.out.mono ?_
          rintro e w5 ⟨v5, rfl, hO5, hb5⟩
          obtain ⟨A5, c5, e5, -⟩ := hO5.form
          subst e5
          have hz5 := hb5.size
          have hB5 := hid (hB.out.trans (hb5.mono hB.out.size))
          have hB35 := hid (hB3.out.trans (hb5.mono hB3.out.size))
          have hOb := hid (hO.out.below hb5)
          have hOc := hid (hO5.more hB.out.size)
          obtain ⟨lc, hlc⟩ : ∃ l, (pathB (nxT zss) (k : Int)).length = l := ⟨_, rfl⟩
          obtain ⟨lb, hlb⟩ : ∃ l, (cycTo (nxT zss) k).length = l := ⟨_, rfl⟩
          rw [hlc] at hOc ⊢
          rw [hlb] at hOb ⊢
          by_cases h0 : lc = 0
          · have hsu2 := hid (hsu.trans (step_none (List.eq_nil_of_length_eq_zero (hlc.trans h0))))
            have g1 : ¬ ((0 : Int) < (lc : Int)) := by omega
            clear hsu hlc hlb h0 hO hO5 hb5 hcy
            go_wp2
            go_roundw
            case rel => exact ⟨k + 1, by omega, by go_num, by rw [hsu2.out]; exact hOb, hB5, hB35⟩
            case measure => simp [intOf]; omega
          · have g1 : (0 : Int) < (lc : Int) := by omega
            by_cases hb0 : lb = 0
            · have hsu2 := hid (hsu.trans (step_take (by omega) (.inl (by omega))))
              have g2 : ((lb : Int) == 0) = true := by simp [hb0]
              have g3 : (lb : Int) = 0 := by omega
              clear hsu hlc hlb h0 hO hO5 hb5 hcy
              go_wp2
              go_roundw
              case rel => exact ⟨k + 1, by omega, by go_num, by rw [hsu2.out]; exact hOc, hB5, hB35⟩
              case measure => simp [intOf]; omega
            · have g2 : ((lb : Int) == 0) = false := by simp [hb0]
              have g3 : ¬ ((lb : Int) = 0) := by omega
              by_cases hlt2 : lc < lb
              · have hsu2 := hid (hsu.trans (step_take (by omega) (.inr (by omega))))
                have g4 : (lc : Int) < (lb : Int) := by omega
                clear hsu hlc hlb h0 hO hO5 hb5 hcy hlt2 hb0
                go_wp2
                go_roundw
                case rel => exact ⟨k + 1, by omega, by go_num, by rw [hsu2.out]; exact hOc, hB5, hB35⟩
                case measure => simp [intOf]; omega
              · have hsu2 := hid (hsu.trans (step_keep (by omega) (by omega)))
                have g4 : ¬ ((lc : Int) < (lb : Int)) := by omega
                clear hsu hlc hlb h0 hO hO5 hb5 hcy hlt2 hb0
                go_wp2
                go_roundw
                case rel => exact ⟨k + 1, by omega, by go_num, by rw [hsu2.out]; exact hOb, hB5, hB35⟩
                case measure => simp [intOf]; omega
      · obtain rfl : k = 12 := by omega
        rw [cycTo_12] at hO
        obtain ⟨vA, vC, e9, -⟩ := hO.out.form
        subst e9
        go_wp2
        go_ret
        exact ⟨_, rfl, by rw [hto.out]; exact hO.out, hB.out⟩
end Go.Proofs.Ytdhafappclcijaa
