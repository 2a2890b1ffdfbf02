/-
  Contracts of the model's GroupNew, of l11Trace, and of GroupTrace of the program and of the model. No condition but lengths below 2^40.
-/
import Derived.Test.YtbnmeedmeikepaaGmS
namespace Go.Proofs.Ytbnmeedmeikepaa
open Go.RowKit
set_option linter.unusedVariables false
set_option linter.unusedSimpArgs false

theorem own_empty {w : World} {lo b : Nat} (h : Cs w b 34 #[]) (hb : lo ≤ b) : OwE w lo (.slice (some ⟨b, 0, none⟩) 0 0) [] :=
  ⟨rfl, .inr ⟨b, 0, #[], rfl, hb, h, Nat.le_refl _, by decide, rfl, rfl⟩⟩

set_option maxHeartbeats 2000000 in
theorem GroupNew_spec (id : Int) (w : World) : Calls Try.prog 42 #[.int .i64 id] w (NewPost id w) := by
  have hB0 := hid (below1 w (.cells #[.int .i64 0, .int .i64 0, .slice none 0 0, .slice none 0 0] 25))
  cases hI : grB id with
  | false =>
    have R : Hid ((if grB id then id else 0) = 0 ∧ grB id = false) := hid (by rw [hI]; exact ⟨rfl, rfl⟩)
    have hI := hid hI
    go_enter Try.func42, Try.ntmps42
    go_wp2_with (go_at_call 49; (with_reducible refine (l1Group_as hI.out _).mono ?_); rintro e w' ⟨rfl, rfl⟩)
    refine bodyPost_ret (v := .tuple #[gpV 0 0 (.slice none 0 0) (.slice none 0 0), .bool false]) (by simp [results, Try.results42, go_sem]) rfl ⟨none, 0, none, 0, by rw [R.out.1, R.out.2], own_nil _ _, ?_⟩
    first
      | exact hB0.out
      | exact (((hB0.out.setCell (Nat.le_refl _) _).setCell (Nat.le_refl _) _).setCell (Nat.le_refl _) _).setCell (Nat.le_refl _) _
      | exact below1 w _
  | true =>
    have R : Hid ((if grB id then id else 0) = id ∧ grB id = true) := hid (by rw [hI]; exact ⟨rfl, rfl⟩)
    have hI := hid hI
    go_enter Try.func42, Try.ntmps42
    go_wp2_with (go_at_call 49; (with_reducible refine (l1Group_as hI.out _).mono ?_); rintro e w' ⟨rfl, rfl⟩)
    refine bodyPost_ret (v := .tuple #[gpV id 0 (.slice (some ⟨w.heap.size + 1, 0, none⟩) 0 0) (.slice (some ⟨w.heap.size + 1 + 1, 0, none⟩) 0 0), .bool true]) (by simp [results, Try.results42, go_sem]) rfl ⟨some ⟨w.heap.size + 1, 0, none⟩, 0, some ⟨w.heap.size + 1 + 1, 0, none⟩, 0, by rw [R.out.1, R.out.2], ⟨own_empty ?_ (by omega), own_empty ?_ (by omega), rfl, rfl, fun b h1 h2 => by injection h1 with h1; injection h2 with h2; simp at h1 h2; omega⟩, ?_⟩
    · exact (Cs.new' _ _ _ (by simp)).alloc _
    · exact Cs.new' _ _ _ (by simp)
    · exact (((Below.refl _ w).alloc (Nat.le_refl _) _).alloc (by simp) _).alloc (by simp; omega) _

/-! ### traces -/
def TrcPost (ms : List Int) (w : World) (e : Ending) (w' : World) : Prop := ∃ (A : Option Addr) (c : Nat), e = .returned (.slice A ms.length c) ∧ OwI w' w.heap.size (.slice A ms.length c) ms ∧ Below w.heap.size w w'

theorem msgs_len (l : List En) : (msgs l).length = l.length := by simp [msgs]

set_option maxHeartbeats 2000000 in
theorem l11Trace_any {n c : Nat} {A : Option Addr} {zs : List En} (w : World) (hr : RdE w w.heap.size A n zs) (hn : n < 1099511627776) :
    Calls Try.prog 41 #[.slice A n c] w (TrcPost (msgs zs) w) := by
  have hl' := hid hr.len
  have hr' := hid hr
  have hO0 := hid (OwI.empty_lit w (Nat.le_refl _))
  have hB0 := hid (below1 w (.cells #[] 3))
  clear hr
  go_enter Try.func41, Try.ntmps41
  go_wp2
  go_loopw [3, 4] (fun v i wr => ∃ (k : Nat) (A2 : Option Addr) (c2 : Nat), k ≤ n ∧ i = .int .i64 k ∧ v = .slice A2 k c2 ∧ Hid (OwI wr w.heap.size (.slice A2 k c2) (msgs (zs.take k))) ∧ Hid (Below w.heap.size w wr)) (fun _ i _ => n - (intOf i).toNat)
  case atStart => exact ⟨0, _, _, Nat.zero_le _, rfl, rfl, hO0, hB0⟩
  case round =>
    obtain ⟨k, A2, c2, hk, rfl, rfl, hO, hB⟩ := hrel
    by_cases hlt : k < n
    · obtain ⟨b, off, m, t, g, f, rfl, hx, hb, c0, c1, c2', c3⟩ := (hr'.out.below hB.out).at_ hlt
      have htk : Hid (msgs (zs.take k) ++ [m] = msgs (zs.take (k + 1)) ∧ (msgs (zs.take k)).length = k ∧ (msgs (zs.take (k + 1))).length = k + 1) := hid (by
        refine ⟨by rw [take_snocE hx.out]; simp [msgs], ?_, ?_⟩
        · rw [msgs_len, List.length_take, hl'.out]; omega
        · rw [msgs_len, List.length_take, hl'.out]; omega)
      have hsz := hB.out.size
      go_wp2_with (at_builtin; refine wpList_app1 rfl (.tmp 12) (.tmp 18) rfl w.heap.size m (.slice A2 k c2) (msgs (zs.take k)) rfl rfl hO.out hsz (by rw [htk.out.2.1]; omega) ?_; intro v' w' ho hb')
      obtain ⟨A3, c3', e3, _⟩ := ho.form
      subst e3
      rw [htk.out.1, htk.out.2.2] at ho ⊢
      have hO2 := hid ho
      have hB2 := hid (hB.out.trans hb')
      clear ho hb'
      go_wp2
      go_roundw
      case rel => exact ⟨k + 1, A3, c3', by omega, by go_num, rfl, hO2, hB2⟩
      case measure => simp [intOf]; omega
    · obtain rfl : k = n := by omega
      have hfin : Hid (msgs (zs.take k) = msgs zs ∧ (msgs zs).length = k) := hid ⟨by rw [List.take_of_length_le (by rw [hl'.out]; omega)], by rw [msgs_len]; exact hl'.out⟩
      go_wp2
      go_ret
      refine ⟨A2, c2, by rw [hfin.out.2]; rfl, ?_, hB.out⟩
      have := hO.out
      rw [hfin.out.1] at this
      rw [hfin.out.2]; exact this

set_option maxHeartbeats 2000000 in
theorem GroupTrace_impl {n1 c1 n2 c2 : Nat} {A1 A2 : Option Addr} {P D : List En} {id ck : Int} {ms : List Int} (htr : trR ⟨id, ck, P, D⟩ = ms) (w : World) (hr : RdG w A1 n1 c1 A2 n2 c2 P D) :
    Calls Try.prog 16 #[gpV id ck (.slice A1 n1 c1) (.slice A2 n2 c2)] w (TrcPost ms w) := by
  have hB0 := hid (below1 w (.cells #[.int .i64 id, .int .i64 ck, .slice A1 n1 c1, .slice A2 n2 c2] 25))
  have hG0 := hid (Cs.new w 25 #[.int .i64 id, .int .i64 ck, .slice A1 n1 c1, .slice A2 n2 c2])
  have hr0 := hid (hr.below hB0.out)
  have hl' := hid hr.rd.len
  have hh2 := hr.h2
  have htr' := hid htr
  have hr1' := hid hr
  clear htr hr
  cases hv : vdB ⟨id, ck, P, D⟩ with
  | false =>
    obtain rfl : ms = [] := by
      have := htr'.out
      unfold trR at this
      rw [hv] at this
      simpa using this.symm
    have hv := hid hv
    go_enter Try.func16, Try.ntmps16
    go_wp2_with fail
    refine (GroupValidI_as hv.out _ hr0.out).mono ?_
    rintro e w1 ⟨rfl, hb1⟩
    have hB1 := hid (hB0.out.trans (hb1.mono (by simp)))
    have hO1 := hid (OwI.empty_lit w1 hB1.out.size)
    clear hb1
    go_wp2
    go_ret
    exact ⟨_, _, rfl, hO1.out, hB1.out.alloc hB1.out.size _⟩
  | true =>
    have hms : Hid (ms = msgs D) := hid (by
      have := htr'.out
      unfold trR at this
      rw [hv] at this
      exact this.symm)
    have hv := hid hv
    go_enter Try.func16, Try.ntmps16
    go_wp2_with fail
    refine (GroupValidI_as hv.out _ hr0.out).mono ?_
    rintro e w1 ⟨rfl, hb1⟩
    have hB1 := hid (hB0.out.trans (hb1.mono (by simp)))
    have hG1 := hid (hG0.out.step hb1)
    have hr1 := hid (hr0.out.below hb1)
    obtain ⟨q0, q1, q2, q3⟩ := hG1.out.four
    clear hb1
    have hO0 := hid (OwI.empty_lit w1 hB1.out.size)
    have hB2 := hid (hB1.out.alloc hB1.out.size (.cells #[] 3))
    have hr2 := hid ((hr1.out.below (below1 w1 (.cells #[] 3))).rd)
    have hgz := hG1.out.lt
    go_wp2
    go_loopw [3, 14] (fun v i wr => ∃ (k : Nat) (A3 : Option Addr) (c3 : Nat), k ≤ n2 ∧ i = .int .i64 k ∧ v = .slice A3 k c3 ∧ Hid (OwI wr w.heap.size (.slice A3 k c3) (msgs (D.take k))) ∧ Hid (RdE wr wr.heap.size A2 n2 D) ∧ Hid (Below w.heap.size w wr)) (fun _ i _ => n2 - (intOf i).toNat)
    case atStart => exact ⟨0, _, _, Nat.zero_le _, rfl, rfl, hO0, hr2, hB2⟩
    case round =>
      obtain ⟨k, A3, c3, hk, rfl, rfl, hO, hr, hB⟩ := hrel
      by_cases hlt : k < n2
      · obtain ⟨b, off, m, t, g, f, rfl, hx, hb, d0, d1, d2, d3⟩ := hr.out.at_ hlt
        have htk : Hid (msgs (D.take k) ++ [m] = msgs (D.take (k + 1)) ∧ (msgs (D.take k)).length = k ∧ (msgs (D.take (k + 1))).length = k + 1) := hid (by
          refine ⟨by rw [take_snocE hx.out]; simp [msgs], ?_, ?_⟩
          · rw [msgs_len, List.length_take, hl'.out]; omega
          · rw [msgs_len, List.length_take, hl'.out]; omega)
        have hB3 := hid (hB.out.alloc hB.out.size (.cells #[.int .i64 m, .int .i64 t, .int .i64 g, .bool f] 34))
        have hsz := hB3.out.size
        have hO3 := hid (show OwI (wr.alloc (.cells #[.int .i64 m, .int .i64 t, .int .i64 g, .bool f] 34)) w.heap.size (.slice A3 k c3) (msgs (D.take k)) from hO.out.alloc _)
        go_wp2_with (at_builtin; (refine wpList_app1 rfl (.tmp 18) (.tmp 21) rfl w.heap.size m (.slice A3 k c3) (msgs (D.take k)) rfl (by rw [World.size_alloc]; rfl) hO3.out hsz (by rw [htk.out.2.1]; omega) ?_); intro v' w' ho hb')
        obtain ⟨A4, c4, e4, _⟩ := ho.form
        subst e4
        rw [htk.out.1, htk.out.2.2] at ho ⊢
        have hO2 := hid ho
        have hB2 := hid (hB3.out.trans hb')
        have hrr := hid (((hr1'.out.rd.below hB2.out)).more hB2.out.size)
        clear ho hb'
        go_wp2
        go_roundw
        case rel => exact ⟨k + 1, A4, c4, by omega, by go_num, rfl, hO2, hrr, hB2⟩
        case measure => simp [intOf]; omega
      · obtain rfl : k = n2 := by omega
        have hfin : Hid (msgs (D.take k) = ms ∧ ms.length = k) := hid (by
          rw [hms.out]
          exact ⟨by rw [List.take_of_length_le (by rw [hl'.out]; omega)], by rw [msgs_len]; exact hl'.out⟩)
        go_wp2
        go_ret
        refine ⟨A3, c3, by rw [hfin.out.2]; rfl, ?_, hB.out⟩
        have := hO.out
        rw [hfin.out.1] at this
        rw [hfin.out.2]; exact this

set_option maxHeartbeats 2000000 in
theorem GroupTrace_spec {n1 c1 n2 c2 : Nat} {A1 A2 : Option Addr} {P D : List En} {id ck : Int} {ms : List Int} (htr : trR ⟨id, ck, P, D⟩ = ms) (w : World) (hr : RdG w A1 n1 c1 A2 n2 c2 P D) :
    Calls Try.prog 18 #[gpV id ck (.slice A1 n1 c1) (.slice A2 n2 c2)] w (TrcPost ms w) := by
  have hB0 := hid (below1 w (.cells #[.int .i64 id, .int .i64 ck, .slice A1 n1 c1, .slice A2 n2 c2] 25))
  have hG0 := hid (Cs.new w 25 #[.int .i64 id, .int .i64 ck, .slice A1 n1 c1, .slice A2 n2 c2])
  have hr0 := hid (hr.below hB0.out)
  have hl' := hid hr.rd.len
  have hh2 := hr.h2
  have htr' := hid htr
  clear htr hr
  cases hv : vdB ⟨id, ck, P, D⟩ with
  | false =>
    obtain rfl : ms = [] := by
      have := htr'.out
      unfold trR at this
      rw [hv] at this
      simpa using this.symm
    have hv := hid hv
    go_enter Try.func18, Try.ntmps18
    go_wp2_with fail
    refine (GroupValidS_as hv.out _ hr0.out).mono ?_
    rintro e w1 ⟨rfl, hb1⟩
    have hB1 := hid (hB0.out.trans (hb1.mono (by simp)))
    have hO1 := hid (OwI.empty_lit w1 hB1.out.size)
    clear hb1
    go_wp2
    go_ret
    exact ⟨_, _, rfl, hO1.out, hB1.out.alloc hB1.out.size _⟩
  | true =>
    have hms : Hid (ms = msgs D) := hid (by
      have := htr'.out
      unfold trR at this
      rw [hv] at this
      exact this.symm)
    have hv := hid hv
    go_enter Try.func18, Try.ntmps18
    go_wp2_with fail
    refine (GroupValidS_as hv.out _ hr0.out).mono ?_
    rintro e w1 ⟨rfl, hb1⟩
    have hB1 := hid (hB0.out.trans (hb1.mono (by simp)))
    have hG1 := hid (hG0.out.step hb1)
    have hr1 := hid (hr0.out.below hb1)
    obtain ⟨q0, q1, q2, q3⟩ := hG1.out.four
    clear hb1
    go_wp2_with fail
    refine (l11Trace_any _ hr1.out.rd hh2).mono ?_
    rintro e w2 ⟨A, c, rfl, ho, hb2⟩
    have hO2 := hid (OwI.more ho hB1.out.size)
    have hB2 := hid (hB1.out.trans (hb2.mono hB1.out.size))
    clear ho hb2
    go_wp2
    go_ret
    exact ⟨A, c, by rw [hms.out]; rfl, by rw [hms.out]; exact hO2.out, hB2.out⟩
end Go.Proofs.Ytbnmeedmeikepaa
