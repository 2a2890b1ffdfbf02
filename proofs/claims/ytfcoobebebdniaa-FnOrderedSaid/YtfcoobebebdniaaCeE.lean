/-
  Contract of the program's CreditsValid. No condition but lengths below 2^40.
-/
import Derived.Test.YtfcoobebebdniaaCeD
import Derived.Test.YtfcoobebebdniaaCdF
namespace Go.Proofs.Ytfcoobebebdniaa
open Go.RowKit
set_option linter.unusedVariables false
set_option linter.unusedSimpArgs false

set_option maxHeartbeats 2000000 in
theorem IndexBad_any {b : Nat} {A1 A2 A3 : Option Addr} {n1 n3 c1 c2 n2 c3 : Nat} {c : Cr} (w : World) (hC : Cs w b 28 #[.slice A1 n1 c1, .slice A3 n3 c3]) (hr : RdC w A1 n1 A2 n2 c) (hf : frB c.fr = true) :
    Calls Try.prog 69 #[.slice A2 n2 c2, .func (.func 44) #[] #[.pointer (some ⟨b, 0, none⟩)]] w
      fun e w' => (∃ k : Int, e = .returned (.int .i64 k) ∧ decide (k ≥ 0) = !(c.hs.all (hoB c.fr))) ∧ Below w.heap.size w w' := by
  have hC' := hid hC
  have hr' := hid hr
  have hf' := hid hf
  have b2 := hr.b2
  have hl2 := hid hr.len.2
  clear hC hr hf
  go_enter Try.func69, Try.ntmps69
  go_wp2
  go_loopw [8] (fun i wr => ∃ k : Nat, k ≤ n2 ∧ i = .int .i64 k ∧ Hid (∀ j, j < k → hoB c.fr (c.h j) = true) ∧ Hid (Below w.heap.size w wr)) (fun i _ => n2 - (intOf i).toNat)
  case atStart => exact ⟨0, by omega, rfl, hid (fun j hj => by omega), hid (Below.refl _ _)⟩
  case round =>
    obtain ⟨k, hk, rfl, hall, hB⟩ := hrel
    by_cases hlt : k < n2
    · have hRw := hid (hr'.out.step hB.out)
      have hCw := hid (hC'.out.step hB.out)
      have i0 : (0 : Int) ≤ (k : Int) := by omega
      have i1 : (k : Int) < (n2 : Int) := by omega
      have hkl : k < c.hs.length := by rw [hl2.out]; exact hlt
      obtain ⟨bb, off, Ai, m, ci, rfl, hb, hm, e0, e1, hri, hmc, hci, hml⟩ := hRw.out.at_ hlt
      obtain ⟨x, hx⟩ : ∃ x, (c.h k).2 = x := ⟨_, rfl⟩
      obtain ⟨zs, hzs⟩ : ∃ zs, (c.h k).1 = zs := ⟨_, rfl⟩
      have hhk : Hid (c.h k = (zs, x)) := hid (by rw [← hx, ← hzs])
      rw [hx] at e1
      rw [hzs] at hm hri
      have hRf := hid hRw.out.f
      clear hx hzs hRw
      cases hb : hoB c.fr (zs, x) with
      | false =>
        have R := hid (show (!(c.hs.all (hoB c.fr))) = true from by
          rw [Bool.not_eq_true', List.all_eq_false]
          exact ⟨_, List.mem_of_getElem? (at_h hkl), by rw [hhk.out, hb]; simp⟩)
        have hb' := hid hb
        clear hb
        go_wp2_with fail
        refine (badHold_any x _ hCw.out hf'.out hRf.out hri.out hml).mono ?_
        rw [hb'.out]
        rintro e w2 ⟨rfl, hb2⟩
        have B2 := hid (hB.out.trans (hb2.mono hB.out.size))
        clear hb2
        go_wp2
        go_ret
        exact ⟨⟨k, rfl, by rw [R.out]; simp⟩, B2.out⟩
      | true =>
        have hb' := hid hb
        clear hb
        go_wp2_with fail
        refine (badHold_any x _ hCw.out hf'.out hRf.out hri.out hml).mono ?_
        rw [hb'.out]
        rintro e w2 ⟨rfl, hb2⟩
        have B2 := hid (hB.out.trans (hb2.mono hB.out.size))
        clear hb2
        go_wp2
        go_roundw
        case rel => exact ⟨k + 1, by omega, by go_num, hid (fun j hj => by
              by_cases e : j = k
              · subst e
                rw [hhk.out]; exact hb'.out
              · exact hall.out j (by omega)), B2⟩
        case measure => simp [intOf]; omega
    · have hkn : ¬ ((k : Int) < (n2 : Int)) := by omega
      have R := hid (show (!(c.hs.all (hoB c.fr))) = false from by
        rw [Bool.not_eq_false', List.all_eq_true]
        intro x hx
        obtain ⟨j, hj, rfl⟩ := List.getElem_of_mem hx
        have e : c.h j = c.hs[j] := h_at (List.getElem?_eq_getElem hj)
        rw [← e]
        exact hall.out j (by rw [hl2.out] at hj; omega))
      go_wp2
      go_ret
      exact ⟨⟨-1, rfl, by rw [R.out]; simp⟩, hB.out⟩

set_option maxHeartbeats 400000 in
theorem ContainsBad_any {b : Nat} {A1 A2 A3 : Option Addr} {n1 n3 c1 c2 n2 c3 : Nat} {c : Cr} (w : World) (hC : Cs w b 28 #[.slice A1 n1 c1, .slice A3 n3 c3]) (hr : RdC w A1 n1 A2 n2 c) (hf : frB c.fr = true) :
    Calls Try.prog 43 #[.slice A2 n2 c2, .func (.func 44) #[] #[.pointer (some ⟨b, 0, none⟩)]] w
      fun e w' => e = .returned (.bool (!(c.hs.all (hoB c.fr)))) ∧ Below w.heap.size w w' := by
  have hC' := hid hC
  have hr' := hid hr
  have hf' := hid hf
  clear hC hr hf
  go_enter Try.func43, Try.ntmps43
  go_wp2_with fail
  refine (IndexBad_any _ hC'.out hr'.out hf'.out).mono ?_
  rintro e w1 ⟨⟨k, rfl, hk⟩, hb⟩
  have R := hid hk
  have hb := hid hb
  clear hk
  go_wp2
  go_ret
  exact ⟨by rw [← R.out]; rfl, hb.out⟩

set_option maxHeartbeats 2000000 in
theorem CreditsValid_impl {A1 A2 : Option Addr} {n1 n2 c1 c2 : Nat} {c : Cr} (w : World) (hr : RdC w A1 n1 A2 n2 c) :
    Calls Try.prog 20 #[crV (.slice A1 n1 c1) (.slice A2 n2 c2)] w fun e w' => e = .returned (.bool (crB c)) ∧ Below w.heap.size w w' := by
  obtain ⟨W, hW⟩ : ∃ W, w.alloc (.cells #[.slice A1 n1 c1, .slice A2 n2 c2] 28) = W := ⟨_, rfl⟩
  have hB := hid (show Below w.heap.size w W by rw [← hW]; exact below1 w _)
  have hC := hid (show Cs W w.heap.size 28 #[.slice A1 n1 c1, .slice A2 n2 c2] by rw [← hW]; exact Cs.new w _ _)
  have hR := hid (show RdC W A1 n1 A2 n2 c by rw [← hW]; exact hr.alloc _)
  have l2' := hid hr.len.2
  have b1 := hr.b1
  have b2 := hr.b2
  replace hW := hid hW
  clear hr
  obtain ⟨d0, d1, -, -⟩ := hC.out.two
  have hRf := hid hR.out.f
  cases hf : frB c.fr with
  | false =>
    have hno := hid (crB_fr hf)
    have hf' := hid hf
    clear hf
    go_enter Try.func20, Try.ntmps20
    go_upto_region 1 with (fail)
    rw [hW.out]
    go_wp2_with (go_at_call 39; (with_reducible refine (freeValid_as hf'.out _ hRf.out b1).mono ?_); rintro e w1 ⟨rfl, rfl⟩)
    go_ret
    exact ⟨ret_bool hno.out.symm, hB.out⟩
  | true =>
    have hf' := hid hf
    cases hn6 : inB (c.hs.length : Int) 1 6 with
    | false =>
      have hno := hid (crB_n hn6)
      have hn6' : Hid (inB (n2 : Int) 1 6 = false) := hid (by rw [← l2'.out]; exact hn6)
      clear hn6 hf
      go_enter Try.func20, Try.ntmps20
      go_upto_region 1 with (fail)
      rw [hW.out]
      go_wp2_with (first | (go_at_call 39; (with_reducible refine (freeValid_as hf'.out _ hRf.out b1).mono ?_); rintro e w1 ⟨rfl, rfl⟩) | (go_at_call 40; (with_reducible refine (sendersFit_as hn6'.out _).mono ?_); rintro e w1 ⟨rfl, rfl⟩))
      go_ret
      exact ⟨ret_bool hno.out.symm, hB.out⟩
    | true =>
      have hyes : Hid (crB c = c.hs.all (hoB c.fr)) := hid (by unfold crB; rw [hf, hn6]; rfl)
      have hn6' : Hid (inB (n2 : Int) 1 6 = true) := hid (by rw [← l2'.out]; exact hn6)
      clear hn6 hf
      go_enter Try.func20, Try.ntmps20
      go_upto_region 1 with (fail)
      rw [hW.out]
      go_wp2_with (first | (go_at_call 39; (with_reducible refine (freeValid_as hf'.out _ hRf.out b1).mono ?_); rintro e w1 ⟨rfl, rfl⟩) | (go_at_call 40; (with_reducible refine (sendersFit_as hn6'.out _).mono ?_); rintro e w1 ⟨rfl, rfl⟩))
      refine (ContainsBad_any _ hC.out hR.out hf'.out).mono ?_
      rintro e w1 ⟨rfl, hb⟩
      have hb' := hid (hB.out.trans (hb.mono hB.out.size))
      clear hb
      go_wp2
      go_ret
      exact ⟨ret_bool (by rw [hyes.out]), hb'.out⟩

theorem CreditsValid_ias {A1 A2 : Option Addr} {n1 n2 c1 c2 : Nat} {c : Cr} {r : Bool} (h : crB c = r) (w : World) (hr : RdC w A1 n1 A2 n2 c) :
    Calls Try.prog 20 #[crV (.slice A1 n1 c1) (.slice A2 n2 c2)] w fun e w' => e = .returned (.bool r) ∧ Below w.heap.size w w' := by
  subst h; exact CreditsValid_impl w hr
end Go.Proofs.Ytfcoobebebdniaa
