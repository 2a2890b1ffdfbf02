/-
  Contracts of ViewMajority, the model's and the program's. No condition but lengths below 2^40.
-/
import Derived.Test.YtppdfgifnmfioaaDoorVwD
namespace Go.Proofs.YtppdfgifnmfioaaDoor
open Go.RowKit
set_option linter.unusedVariables false
set_option linter.unusedSimpArgs false

theorem l1Has_asM {B n c : Nat} {A : Option Addr} {zs : List Int} {x : Int} {r : Bool} (h : hasB zs x = r) (w : World) (hr : RdI w B A n zs) (hn : n < 1099511627776) :
    Calls Tryd.prog 40 #[.slice A n c, .int .i64 x] w fun e w' => e = .returned (.bool r) ∧ w = w' := by
  subst h; exact l1Has_any x w hr hn

theorem maj_split {n : Int} {zs so : List Int} (h : ∀ i, i < so.length → hasB zs (so.getD i 0) = true) : majR n zs so = (vwB n zs && mvB so && decide (zs.length < 2 * so.length)) := by
  have : so.all (fun x => hasB zs x) = true := by
    rw [List.all_eq_true]
    intro x hx
    obtain ⟨i, hi, rfl⟩ := List.getElem_of_mem hx
    have := h i hi
    simpa [hi] using this
  simp [majR, this]

theorem maj_out {n : Int} {zs so : List Int} {i : Nat} (hi : i < so.length) (h : hasB zs (so.getD i 0) = false) : majR n zs so = false := by
  have : so.all (fun x => hasB zs x) = false := by
    rw [List.all_eq_false]
    refine ⟨so[i], List.getElem_mem hi, ?_⟩
    have e : so.getD i 0 = so[i] := by simp [hi]
    rw [← e, h]; simp
  simp [majR, this]

set_option maxHeartbeats 4000000 in
theorem ViewMajority_spec {m c s d : Nat} {A B : Option Addr} {zs so : List Int} {r : Bool} (n : Int) (w : World) (hr : RdI w w.heap.size A m zs) (hs : RdI w w.heap.size B s so) (hm : m < 1099511627776) (hs40 : s < 1099511627776) (hR : majR n zs so = r) :
    Calls Tryd.prog 25 #[vwV n (.slice A m c), .slice B s d] w fun e w' => e = .returned (.bool r) ∧ Below w.heap.size w w' := by
  obtain ⟨W, hW⟩ : ∃ W, w.alloc (.cells #[.int .i64 n, .slice A m c] 25) = W := ⟨_, rfl⟩
  have hB := hid (show Below w.heap.size w W by rw [← hW]; exact below1 w _)
  have hC := hid (show Cs W w.heap.size 25 #[.int .i64 n, .slice A m c] by rw [← hW]; exact Cs.new w _ _)
  have hr' := hid ((Reads.below hr hB.out).more hB.out.size)
  have hs' := hid ((Reads.below hs hB.out).more hB.out.size)
  have hl := hid hr.len
  have hsl := hid hs.len
  have hR' := hid hR
  replace hW := hid hW
  clear hr hs hR
  go_enter Tryd.func25, Tryd.ntmps25
  go_upto_region 1 with (fail)
  rw [hW.out]
  go_wp2
  go_loopw [5] (fun i wr => ∃ k : Nat, k ≤ s ∧ i = .int .i64 k ∧ Qt W wr ∧ Hid (∀ j, j < k → hasB zs (so.getD j 0) = true)) (fun i _ => s - (intOf i).toNat)
  case atStart => exact ⟨0, Nat.zero_le _, rfl, Qt.refl _, hid (fun j h => by omega)⟩
  case round =>
    obtain ⟨k, hk, rfl, hq, hall⟩ := hrel
    have hCq : Hid (Cs wr w.heap.size 25 #[.int .i64 n, .slice A m c]) := hid (hC.out.below (hq.below _) hC.out.lt)
    have hrq : Hid (RdI wr wr.heap.size A m zs) := hid (by rw [hq.size]; exact hq.reads hr'.out)
    have hBq := hid (hB.out.trans ((hq.below W.heap.size).mono hB.out.size))
    obtain ⟨d0, d1, -, -⟩ := hCq.out.two
    by_cases hlt : k < s
    · obtain ⟨ad, y, rfl, hy, hc⟩ := RdI.at' (hq.reads hs'.out) hlt
      have i0 : (0 : Int) ≤ (k : Int) := by omega
      have i1 : (k : Int) < (s : Int) := by omega
      cases hh : hasB zs y with
      | true =>
        have hh' := hid hh
        clear hh
        go_wp2
        go_quiet ((go_at_call 40; exact same_call (l1Has_asM hh'.out _ hrq.out hm)))
        go_wp2
        go_roundw
        case rel => exact ⟨k + 1, by omega, by go_num, hq.drewN _, hid (fun j hj => by
            by_cases e : j = k
            · subst e; rw [hy.out]; exact hh'.out
            · exact hall.out j (by omega))⟩
        case measure => simp [intOf]; omega
      | false =>
        have hh' := hid hh
        have hno : Hid (r = false) := hid (by rw [← hR'.out]; exact maj_out (i := k) (by rw [hsl.out]; exact hlt) (by rw [hy.out]; exact hh))
        clear hh
        go_wp2
        go_quiet ((go_at_call 40; exact same_call (l1Has_asM hh'.out _ hrq.out hm)))
        go_wp2
        go_ret
        exact ⟨by rw [hno.out]; rfl, hBq.out.trans (((Qt.drewN (Qt.refl _) _).below _).mono hBq.out.size)⟩
    · have hks : ¬ ((k : Int) < (s : Int)) := by omega
      have hsp := hid (maj_split (n := n) (zs := zs) (so := so) (fun i hi => hall.out i (by rw [hsl.out] at hi; omega)))
      have hsr : Hid (RdI wr wr.heap.size B s so) := hid (by rw [hq.size]; exact hq.reads hs'.out)
      cases hv : vwB n zs with
      | false =>
        have hv' := hid hv
        have hno : Hid (r = false) := hid (by rw [← hR'.out, hsp.out, hv]; rfl)
        clear hv
        go_wp2_with (go_at_call 33; (refine (ViewValid_spec n _ hrq.out hm hv'.out).mono ?_); rintro e w2 ⟨rfl, hb⟩; have hb' := hid hb; clear hb)
        go_ret
        exact ⟨by rw [hno.out]; rfl, hBq.out.trans (hb'.out.mono hBq.out.size)⟩
      | true =>
        have hv' := hid hv
        cases hmv : mvB so with
        | false =>
          have hmv' := hid hmv
          have hno : Hid (r = false) := hid (by rw [← hR'.out, hsp.out, hmv]; simp)
          clear hv hmv
          go_wp2_with (first | (go_at_call 33; (refine (ViewValid_spec n _ hrq.out hm hv'.out).mono ?_); rintro e w2 ⟨rfl, hb⟩; have hb' := hid hb; have hs2 := hid (Reads.below hsr.out hb); clear hb) | (go_at_call 45; (refine (l23Members_any _ hs2.out hs40 hmv'.out).mono ?_); rintro e w3 ⟨rfl, hq3⟩; have hb3 := hid (hq3.below w2.heap.size); clear hq3))
          go_ret
          exact ⟨by rw [hno.out]; rfl, hBq.out.trans ((hb'.out.trans (hb3.out.mono hb'.out.size)).mono hBq.out.size)⟩
        | true =>
          have hmv' := hid hmv
          have hw2 : IntKind.i64.wrap (2 * (s : Int)) = 2 * (s : Int) := IntWalk.i64_in _ (by omega)
          by_cases hlt2 : (m : Int) < 2 * (s : Int)
          · have hyes : Hid (r = true) := hid (by rw [← hR'.out, hsp.out, hv, hmv, hl.out, hsl.out, decide_eq_true (show m < 2 * s by omega)]; rfl)
            clear hv hmv
            go_wp2_with (first | (go_at_call 33; (refine (ViewValid_spec n _ hrq.out hm hv'.out).mono ?_); rintro e w2 ⟨rfl, hb⟩; have hb' := hid hb; have hs2 := hid (Reads.below hsr.out hb); have hC2 := hid (hCq.out.step hb); obtain ⟨e0, e1, -, -⟩ := hC2.out.two; clear hb) | (go_at_call 45; (refine (l23Members_any _ hs2.out hs40 hmv'.out).mono ?_); rintro e w3 ⟨rfl, hq3⟩; have hb3 := hid (hq3.below w2.heap.size); have hC3 := hid (hC2.out.step hb3.out); obtain ⟨k0, k1, -, -⟩ := hC3.out.two; clear hq3))
            go_ret
            exact ⟨by rw [hyes.out]; first | rfl | simp [hlt2], hBq.out.trans ((hb'.out.trans (hb3.out.mono hb'.out.size)).mono hBq.out.size)⟩
          · have hno : Hid (r = false) := hid (by rw [← hR'.out, hsp.out, hv, hmv, hl.out, hsl.out, decide_eq_false (show ¬ m < 2 * s by omega)]; rfl)
            clear hv hmv
            go_wp2_with (first | (go_at_call 33; (refine (ViewValid_spec n _ hrq.out hm hv'.out).mono ?_); rintro e w2 ⟨rfl, hb⟩; have hb' := hid hb; have hs2 := hid (Reads.below hsr.out hb); have hC2 := hid (hCq.out.step hb); obtain ⟨e0, e1, -, -⟩ := hC2.out.two; clear hb) | (go_at_call 45; (refine (l23Members_any _ hs2.out hs40 hmv'.out).mono ?_); rintro e w3 ⟨rfl, hq3⟩; have hb3 := hid (hq3.below w2.heap.size); have hC3 := hid (hC2.out.step hb3.out); obtain ⟨k0, k1, -, -⟩ := hC3.out.two; clear hq3))
            go_ret
            exact ⟨by rw [hno.out]; first | rfl | simp [hlt2] | (simp; omega), hBq.out.trans ((hb'.out.trans (hb3.out.mono hb'.out.size)).mono hBq.out.size)⟩

set_option maxHeartbeats 4000000 in
theorem ViewMajority_impl {m c s d : Nat} {A B : Option Addr} {zs so : List Int} {r : Bool} {a : Addr} (n : Int) (w : World) (hr : RdI w w.heap.size A m zs) (hs : RdI w w.heap.size B s so) (hc : m ≤ c ∧ c ≤ 9223372036854775807) (hm : m < 2097152) (hs40 : s < 1099511627776) (sn : Sn w 2 a) (hR : majR n zs so = r) :
    Calls Tryd.prog 24 #[vwV n (.slice A m c), .slice B s d] w fun e w' => e = .returned (.bool r) ∧ Below w.heap.size w w' := by
  obtain ⟨W, hW⟩ : ∃ W, w.alloc (.cells #[.int .i64 n, .slice A m c] 25) = W := ⟨_, rfl⟩
  have hB := hid (show Below w.heap.size w W by rw [← hW]; exact below1 w _)
  have hC := hid (show Cs W w.heap.size 25 #[.int .i64 n, .slice A m c] by rw [← hW]; exact Cs.new w _ _)
  have hr' := hid ((Reads.below hr hB.out).more hB.out.size)
  have hs' := hid ((Reads.below hs hB.out).more hB.out.size)
  have sn' := hid (sn.below hB.out)
  have hl := hid hr.len
  have hsl := hid hs.len
  have hR' := hid hR
  have hm40 : m < 1099511627776 := by omega
  replace hW := hid hW
  clear hr hs hR sn
  obtain ⟨d0, d1, -, -⟩ := hC.out.two
  cases hv : vwB n zs with
  | false =>
    have hv' := hid hv
    have hno : Hid (r = false) := hid (by rw [← hR'.out]; exact maj_bad hv)
    clear hv
    go_enter Tryd.func24, Tryd.ntmps24
    go_upto_region 1 with (fail)
    rw [hW.out]
    go_wp2_with (go_at_call 18; (refine (ViewValid_impl n _ hr'.out hm40 hv'.out).mono ?_); rintro e w2 ⟨rfl, hb⟩; have hb' := hid hb; clear hb)
    go_ret
    exact ⟨by rw [hno.out]; rfl, hB.out.trans (hb'.out.mono hB.out.size)⟩
  | true =>
    have hv' := hid hv
    have hmv := hid (vwB_true.1 hv).2.2
    by_cases hso : so.Pairwise (· ≤ ·)
    · have hso' := hid hso
      clear hso
      go_enter Tryd.func24, Tryd.ntmps24
      go_upto_region 1 with (fail)
      rw [hW.out]
      go_wp2_with (first | (go_at_call 18; (refine (ViewValid_impl n _ hr'.out hm40 hv'.out).mono ?_); rintro e w2 ⟨rfl, hb⟩; have hb' := hid hb; have hs2 := hid ((Reads.below hs'.out hb).more hb.size); clear hb) | (go_at_call 44; (refine (IsSortedV (r := true) _ hs2.out hs40 ⟨fun _ => hso'.out, fun _ => rfl⟩).mono ?_); rintro e w3 ⟨rfl, hq3⟩; have hb3 := hid (hb'.out.trans ((hq3.below w2.heap.size).mono hb'.out.size)); have hC3 := hid (hC.out.step hb3.out); obtain ⟨k0, k1, -, -⟩ := hC3.out.two; clear hq3))
      have hr3 := hid ((Reads.below hr'.out hb3.out).more hb3.out.size)
      have hB3 := hid (hB.out.trans (hb3.out.mono hB.out.size))
      have hs3 := hid ((Reads.below hs'.out hb3.out).more hb3.out.size)
      have sn3 := hid (sn'.out.below hb3.out)
      clear d0 d1 k0 k1 hC hC3 hr' hs' sn' hs2 hb' hb3 hW hB hv
      go_loopw [5, 22] (fun v i wr => ∃ (k n' c' : Nat) (A' : Option Addr), k ≤ s ∧ i = .int .i64 k ∧ v = .slice A' n' c' ∧ n' ≤ m ∧ n' ≤ c' ∧ c' ≤ 9223372036854775807 ∧ Hid (RdI wr wr.heap.size A' n' (dlF zs (so.take k))) ∧ Hid (okTake zs so k) ∧ Hid (Below w3.heap.size w3 wr)) (fun _ i _ => s - (intOf i).toNat)
      case atStart => exact ⟨0, m, c, A, Nat.zero_le _, rfl, rfl, Nat.le_refl _, hc.1, hc.2, hid (by simpa [dlF] using hr3.out), hid (fun i hi => by omega), hid (Below.refl _ _)⟩
      case round =>
        obtain ⟨k, n', c', A', hk, rfl, rfl, hn'm, hnc', hc'x, hrr, hok, hb⟩ := hrel
        have snr : wr.cell? ⟨2, 0, none⟩ = some (snV a) := sn3.out.below hb.out
        have hBr := hid (hB3.out.trans (hb.out.mono hB3.out.size))
        by_cases hlt : k < s
        · obtain ⟨ad, y, rfl, hy, hcy⟩ := RdI.at' (Reads.below hs3.out hb.out) hlt
          have i0 : (0 : Int) ≤ (k : Int) := by omega
          have i1 : (k : Int) < (s : Int) := by omega
          have hdl := hid (dlF_take hmv.out hok.out (by rw [hsl.out]; exact hk))
          have hks : k < so.length := by rw [hsl.out]; exact hlt
          cases hh : hasB (dlF zs (so.take k)) y with
          | false =>
            have hh' := hid hh
            have hno : Hid (r = false) := hid (by rw [← hR'.out]; exact maj_no hmv.out hok.out hks hy.out (fun hm => by rw [hasB_iff.2 hm] at hh; cases hh))
            have snr' := hid (show Sn wr 2 a from snr)
            clear hh
            go_wp2_with fail
            refine (membersWithout_no y wr hrr.out (by omega) hdl.out.1 snr'.out hh'.out).mono ?_
            rintro e w5 ⟨rfl, hb5⟩
            have g5 : w5.cell? ⟨2, 0, none⟩ = some (snV a) := snr'.out.below hb5
            have hB5 := hid (hBr.out.trans (hb5.mono hBr.out.size))
            clear hb5 snr hcy
            go_wp2_with (go_at_call 38; (with_reducible refine (is_same a _).mono ?_); rintro e w6 ⟨rfl, rfl⟩)
            go_ret
            exact ⟨by rw [hno.out]; rfl, hB5.out⟩
          | true =>
            have hh' := hid hh
            have hok2 := hid (okTake_succ hok.out hy.out (hasB_iff.1 hh) hmv.out hks)
            have hdn : Hid (del (dlF zs (so.take k)) y = dlF zs (so.take (k + 1))) := hid (by rw [take_snoc hks hy.out, dlF_snoc])
            have hdlen := hid (del_len (hasB_iff.1 hh))
            have hrl := hrr.out.len
            clear hh
            go_wp2_with fail
            refine (membersWithout_yes y wr hrr.out ⟨hnc', hc'x⟩ (by omega) hdl.out.1 hh'.out).mono ?_
            rintro e w5 ⟨A5, c5, rfl, hO5, hb5⟩
            have g5 : w5.cell? ⟨2, 0, none⟩ = some (snV a) := (show Sn wr 2 a from snr).below hb5
            obtain ⟨q1, q2, q3⟩ := hO5.capV
            have hrd5 : Hid (RdI w5 w5.heap.size A5 (del (dlF zs (so.take k)) y).length (dlF zs (so.take (k + 1)))) := hid (by
              obtain ⟨A6, c6, e, h⟩ := hO5.form
              injection e with e1 _ _
              subst e1
              rw [← hdn.out]; exact h)
            have hb6 := hid (hb.out.trans (hb5.mono hb.out.size))
            obtain ⟨N, hN⟩ : ∃ N, (del (dlF zs (so.take k)) y).length = N := ⟨_, rfl⟩
            have hNm : N ≤ m := by have := hdlen.out; omega
            rw [hN] at hrd5 q2 ⊢
            clear hb5 snr hcy hO5 q1 hN
            go_wp2_with (go_at_call 38; (with_reducible refine (is_nil a _).mono ?_); rintro e w6 ⟨rfl, rfl⟩)
            go_roundw
            case rel => exact ⟨k + 1, N, c5, A5, by omega, by go_num, rfl, hNm, q2, q3, hrd5, hok2, hb6⟩
            case measure => simp [intOf]; omega
        · have hks : ¬ ((k : Int) < (s : Int)) := by omega
          obtain rfl : k = s := by omega
          have hall := hid (maj_all (n := n) hv'.out hso'.out (by rw [hsl.out]; exact hok.out))
          have hnl : Hid ((dlF zs so).length = n') := hid (by have := hrr.out.len; rw [List.take_of_length_le (by rw [hsl.out]; exact Nat.le_refl _)] at this; exact this)
          by_cases hgt : (n' : Int) < (k : Int)
          · have hyes : Hid (r = true) := hid (by rw [← hR'.out, hall.out, hnl.out, hsl.out]; simp; omega)
            go_wp2
            go_ret
            exact ⟨by rw [hyes.out]; first | rfl | (simp; omega), hBr.out⟩
          · have hno : Hid (r = false) := hid (by rw [← hR'.out, hall.out, hnl.out, hsl.out]; simp; omega)
            go_wp2
            go_ret
            exact ⟨by rw [hno.out]; first | rfl | (simp; omega), hBr.out⟩
    · have hno : Hid (r = false) := hid (by rw [← hR'.out]; exact maj_unsorted hso)
      have hf : Hid (false = true ↔ so.Pairwise (· ≤ ·)) := hid ⟨fun h => by simp at h, fun h => absurd h hso⟩
      clear hv hso
      go_enter Tryd.func24, Tryd.ntmps24
      go_upto_region 1 with (fail)
      rw [hW.out]
      go_wp2_with (first | (go_at_call 18; (refine (ViewValid_impl n _ hr'.out hm40 hv'.out).mono ?_); rintro e w2 ⟨rfl, hb⟩; have hb' := hid hb; have hs2 := hid ((Reads.below hs'.out hb).more hb.size); clear hb) | (go_at_call 44; (refine (IsSortedV (r := false) _ hs2.out hs40 hf.out).mono ?_); rintro e w3 ⟨rfl, hq3⟩; have hb3 := hid (hb'.out.trans ((hq3.below w2.heap.size).mono hb'.out.size)); clear hq3))
      go_ret
      exact ⟨by rw [hno.out]; rfl, hB.out.trans (hb3.out.mono hB.out.size)⟩
end Go.Proofs.YtppdfgifnmfioaaDoor
