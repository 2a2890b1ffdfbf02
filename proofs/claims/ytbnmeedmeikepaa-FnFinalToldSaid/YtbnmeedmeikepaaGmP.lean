/-
  The library's up where nothing moves, Fix, Push. No condition but lengths below 2^40.
-/
import Derived.Test.YtbnmeedmeikepaaGmO
namespace Go.Proofs.Ytbnmeedmeikepaa
open Go.RowKit
set_option linter.unusedVariables false
set_option linter.unusedSimpArgs false

theorem HMs.kp {w w' : World} {lo hb g n c : Nat} {zs : List En} {S : Nat → Prop} (h : HMs w lo hb g n c zs) (hk : Kp S w w') (h1 : ¬ S hb) (h2 : ¬ S g) : HMs w' lo hb g n c zs :=
  ⟨h.1.kp hk h1, hk.own h.2.1 (fun k hk' => by injection hk' with hk'; subst hk'; exact h2), h.2.2⟩

theorem HpIs.kp {w w' : World} {lo hb g n c : Nat} {zs : List En} {S : Nat → Prop} (h : HpIs w lo hb g n c zs) (hk : Kp S w w') (h1 : ¬ S hb) (h2 : ¬ S g) : HpIs w' lo hb g n c zs := by
  obtain ⟨ys, a, b⟩ := h
  exact ⟨ys, a.kp hk h1 h2, b⟩

set_option maxHeartbeats 2000000 in
theorem up_stay {lo hb g n c j : Nat} {zs : List En} {x : Int} (w : World) (H : HMs w lo hb g n c zs) (hN : n < 1099511627776) (hj : j < n) (hup : 1 ≤ j → ltS (keyE zs j) (keyE zs ((j - 1) / 2)) = false) (hx : x = (j : Int)) :
    Calls Try.prog 47 #[.iface 58 (.pointer (some ⟨hb, 0, none⟩)), .int .i64 x] w fun e w' => e = .returned (.tuple #[]) ∧ Below w.heap.size w w' := by
  subst hx
  have mL := meth_Less H.1.cell
  have H' := hid H
  clear H
  by_cases h0 : j = 0
  · subst h0
    clear hup
    go_enter Try.func47, Try.ntmps47
    go_wp2
    go_loopw [1] (fun i wr => i = .int .i64 0 ∧ wr = w) (fun _ _ => 0)
    case atStart => exact ⟨rfl, rfl⟩
    case round =>
      obtain ⟨rfl, rfl⟩ := hrel
      go_wp2
      go_end0
      exact ⟨rfl, Below.refl _ _⟩
  · have hl := hid (hup (by omega))
    clear hup
    have j1 : (0 : Int) ≤ (j : Int) - 1 := by omega
    have hne : (((j : Int) - 1) / 2 == (j : Int)) = false := by rw [beq_eq_false_iff_ne]; omega
    go_enter Try.func47, Try.ntmps47
    go_wp2
    go_loopw [1] (fun i wr => i = .int .i64 j ∧ wr = w) (fun _ _ => 0)
    case atStart => exact ⟨rfl, rfl⟩
    case round =>
      obtain ⟨rfl, rfl⟩ := hrel
      go_wp2_with fail
      refine (Less_at hl.out _ H'.out.rd hN (i := j) (j := (j - 1) / 2) hj (by omega) rfl (by omega)).mono ?_
      rintro e w1 ⟨rfl, hb1⟩
      have hb1 := hid hb1
      go_wp2
      go_end0
      exact ⟨rfl, hb1.out⟩

def FixPost (lo hb g n c : Nat) (zs : List En) (w : World) (e : Ending) (w' : World) : Prop :=
  e = .returned (.tuple #[]) ∧ HpIs w' lo hb g n c zs ∧ Kp (fun k => k = g) w w'

set_option maxHeartbeats 2000000 in
theorem Fix_any {lo hb g n c i : Nat} {zs : List En} {x : Int} (w : World) (H : HMs w lo hb g n c zs) (hN : n < 1099511627776) (hi : i < n) (hx : HpX zs n i) (hup : 1 ≤ i → ltS (keyE zs i) (keyE zs ((i - 1) / 2)) = false) (hxi : x = (i : Int)) :
    Calls Try.prog 36 #[.iface 58 (.pointer (some ⟨hb, 0, none⟩)), .int .i64 x] w (FixPost lo hb g n c zs w) := by
  subst hxi
  have mL := meth_Len H.1.cell
  have H' := hid H
  have hx' := hid hx
  have hup' := hid hup
  clear H hx hup
  go_enter Try.func36, Try.ntmps36
  go_wp2_with fail
  refine (Len_any _ _ _ _).mono ?_
  rintro e w1 ⟨rfl, rfl⟩
  go_wp2_with fail
  refine (down_any _ H'.out hN (Nat.le_refl _) (by omega) hx'.out).mono ?_
  rintro e w2 ⟨ys, r, rfl, h1, h2, h3, _, h4, h5⟩
  have hfin : Hid (FixPost lo hb g n c zs w (.returned (.tuple #[])) w2) := hid ⟨rfl, ⟨ys, h1, h3, h2⟩, h5⟩
  cases r with
  | true =>
    clear h1 h2 h3 h4 h5
    go_wp2
    go_end0
    exact hfin.out
  | false =>
    have e1 : ys = zs := h4 rfl
    subst e1
    have h1 := hid h1
    clear h2 h3 h4 h5
    go_wp2_with fail
    refine (up_stay _ h1.out hN hi hup'.out rfl).mono ?_
    rintro e w3 ⟨rfl, hb3⟩
    have hfin3 : Hid (FixPost lo hb g n c ys w (.returned (.tuple #[])) w3) := hid ⟨rfl, hfin.out.2.1.below hb3, hfin.out.2.2.below_ hb3⟩
    clear hb3
    go_wp2
    go_end0
    exact hfin3.out

set_option maxHeartbeats 2000000 in
theorem heapPush_any {lo hb n c : Nat} {A : Option Addr} {zs : List En} (m t k : Int) (f : Bool) (w : World) (H : HM w lo hb (.slice A n c) zs) (hl : zs.length = n) (hlo : lo ≤ w.heap.size) (hN : n < 1099511627776 - 1) (hup : 1 ≤ n → ltS (t, k) (keyE zs ((n - 1) / 2)) = false) :
    Calls Try.prog 27 #[.iface 58 (.pointer (some ⟨hb, 0, none⟩)), .iface 34 (enV m t k f)] w (PushPost lo hb n (.slice A n c) zs (m, (t, k), f) w) := by
  have mP := meth_Push hb w
  have H' := hid H
  have hup' : Hid (1 ≤ n → ltS (keyE (zs ++ [(m, (t, k), f)]) n) (keyE (zs ++ [(m, (t, k), f)]) ((n - 1) / 2)) = false) := hid (fun h => by
    have e1 : keyE (zs ++ [(m, (t, k), f)]) n = (t, k) := by rw [keyE, atE_get (x := (m, (t, k), f)) (by rw [List.getElem?_append_right (by omega), hl]; simp)]
    have e2 : keyE (zs ++ [(m, (t, k), f)]) ((n - 1) / 2) = keyE zs ((n - 1) / 2) := by
      have h1 : (n - 1) / 2 < zs.length := by omega
      rw [keyE, keyE, atE_get (x := atE zs ((n - 1) / 2)) (by rw [List.getElem?_append_left h1]; exact get_atE h1)]
    rw [e1, e2]; exact hup h)
  have hl' := hid hl
  clear H hup hl
  go_enter Try.func27, Try.ntmps27
  go_wp2_with fail
  refine (PushM_any m t k f _ H'.out hl'.out hlo hN).mono ?_
  rintro e w1 ⟨rfl, g, c', h1, h2, h3⟩
  have h1 := hid h1
  have h2 := hid h2
  have h3 := hid h3
  have mL := meth_Len h1.out.1.cell
  go_wp2_with fail
  refine (Len_any _ _ _ _).mono ?_
  rintro e w2 ⟨rfl, rfl⟩
  go_wp2_with fail
  refine (up_stay _ h1.out (by omega) (j := n) (by omega) hup'.out (by omega)).mono ?_
  rintro e w3 ⟨rfl, hb3⟩
  have hfin : Hid (PushPost lo hb n (.slice A n c) zs (m, (t, k), f) w (.returned (.tuple #[])) w3) := hid ⟨rfl, g, c', h1.out.below hb3, h2.out, h3.out.below_ hb3⟩
  clear hb3
  go_wp2
  go_end0
  exact hfin.out
end Go.Proofs.Ytbnmeedmeikepaa
