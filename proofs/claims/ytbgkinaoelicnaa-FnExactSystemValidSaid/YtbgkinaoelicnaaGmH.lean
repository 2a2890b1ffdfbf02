/-
  Contract of the model's GroupValid. No condition but lengths below 2^40.
-/
import Derived.Test.YtbgkinaoelicnaaGmG
namespace Go.Proofs.Ytbgkinaoelicnaa
open Go.RowKit
set_option linter.unusedVariables false

/-- a group that is read: its two lists -/
structure RdG (w : World) (A1 : Option Addr) (n1 c1 : Nat) (A2 : Option Addr) (n2 c2 : Nat) (P D : List En) : Prop where
  rp : RdE w w.heap.size A1 n1 P
  rd : RdE w w.heap.size A2 n2 D
  h1 : n1 < 1099511627776
  h2 : n2 < 1099511627776
  k1 : n1 ≤ c1
  k2 : n2 ≤ c2
  m1 : c1 ≤ 9223372036854775807
  m2 : c2 ≤ 9223372036854775807

theorem RdG.below {w w' : World} {A1 A2 : Option Addr} {n1 c1 n2 c2 : Nat} {P D : List En} (h : RdG w A1 n1 c1 A2 n2 c2 P D) (hb : Below w.heap.size w w') : RdG w' A1 n1 c1 A2 n2 c2 P D :=
  ⟨(h.rp.below hb).more hb.size, (h.rd.below hb).more hb.size, h.h1, h.h2, h.k1, h.k2, h.m1, h.m2⟩

theorem Cs.fourX {W : World} {b : Nat} {T : TypeId} {a0 a1 a2 a3 : Value} (h : Cs W b T #[a0, a1, a2, a3]) :
    (∀ x : BW W, x.wd.cell? ⟨b, 0, none⟩ = some a0) ∧ (∀ x : BW W, x.wd.cell? ⟨b, 1, none⟩ = some a1) ∧ (∀ x : BW W, x.wd.cell? ⟨b, 2, none⟩ = some a2) ∧ (∀ x : BW W, x.wd.cell? ⟨b, 3, none⟩ = some a3) :=
  ⟨fun x => x.cell h.four.1, fun x => x.cell h.four.2.1, fun x => x.cell h.four.2.2.1, fun x => x.cell h.four.2.2.2⟩

theorem l1Group_as {n : Int} {r : Bool} (h : grB n = r) (w : World) : Calls Try.prog 18 #[.int .i64 n] w fun e w' => e = .returned (.bool r) ∧ w = w' := by
  subst h; exact l1Group_any n w

theorem l6In_as {n lo hi : Int} {r : Bool} (h : inB n lo hi = r) (w : World) : Calls Try.prog 19 #[.int .i64 n, .int .i64 lo, .int .i64 hi] w fun e w' => e = .returned (.bool r) ∧ w = w' := by
  subst h; exact l6In_any n lo hi w

theorem l11List_as {n c n1 c1 n2 c2 : Nat} {A A1 A2 : Option Addr} {zs : List En} {id ck : Int} {r : Bool} (h : lsB id ck zs = r) (w : World) (hr : RdE w w.heap.size A n zs) (hn : n < 1099511627776) (hnc : n ≤ c) (hc : c ≤ 9223372036854775807) :
    Calls Try.prog 20 #[gpV id ck (.slice A1 n1 c1) (.slice A2 n2 c2), .slice A n c] w fun e w' => e = .returned (.bool r) ∧ Below w.heap.size w w' := by
  subst h; exact l11List_any id ck w hr hn hnc hc

theorem vd_no {id ck : Int} {P D : List En} (h : grB id = false ∨ inB ck 0 999 = false ∨ lsB id ck P = false ∨ lsB id ck D = false ∨ (∃ e ∈ D, e.2.2 = false ∨ ∃ p ∈ P, p.1 = e.1) ∨ (∃ p l, P = p :: l ∧ (p.2.2 = true ∨ ∃ d, D.getLast? = some d ∧ ltS d.2.1 p.2.1 = false))) : vdB ⟨id, ck, P, D⟩ = false := by
  rw [vdB_false, Vd_model]
  rintro ⟨h1, h2, h3, h4, h5, h6, h7⟩
  simp only at h1 h2 h3 h4 h5 h6 h7
  rcases h with h | h | h | h | ⟨e, he, h⟩ | ⟨p, l, hp, h⟩
  · rw [h1] at h; cases h
  · rw [inB_true.2 ⟨h2, h3⟩] at h; cases h
  · rw [lsB_true.2 h4] at h; cases h
  · rw [lsB_true.2 h5] at h; cases h
  · rcases h with h | ⟨p, hp, h⟩
    · rw [(h6 e he).1] at h; cases h
    · exact (h6 e he).2 p hp h
  · rcases h with h | ⟨d, hd, h⟩
    · rw [(h7 p l hp).1] at h; cases h
    · rw [(h7 p l hp).2 d hd] at h; cases h

theorem vd_yes {id ck : Int} {P D : List En} (h1 : grB id = true) (h2 : inB ck 0 999 = true) (h3 : lsB id ck P = true) (h4 : lsB id ck D = true) (h5 : ∀ (j : Nat) (y : En), j < D.length → D[j]? = some y → y.2.2 = true ∧ ∀ p ∈ P, p.1 ≠ y.1)
    (h6 : ∀ p l, P = p :: l → p.2.2 = false ∧ ∀ d, D.getLast? = some d → ltS d.2.1 p.2.1 = true) : vdB ⟨id, ck, P, D⟩ = true := by
  rw [vdB_true, Vd_model]
  obtain ⟨a, b⟩ := inB_true.1 h2
  exact ⟨h1, a, b, lsB_true.1 h3, lsB_true.1 h4, fun e he => by
    obtain ⟨j, hj, e1⟩ := List.getElem_of_mem he
    exact h5 j e hj (by rw [List.getElem?_eq_getElem hj, e1]), h6⟩

set_option maxRecDepth 100000 in
set_option maxHeartbeats 4000000 in
theorem GroupValid_spec {n1 c1 n2 c2 : Nat} {A1 A2 : Option Addr} {P D : List En} (id ck : Int) (w : World) (hr : RdG w A1 n1 c1 A2 n2 c2 P D) :
    Calls Try.prog 10 #[gpV id ck (.slice A1 n1 c1) (.slice A2 n2 c2)] w fun e w' => e = .returned (.bool (vdB ⟨id, ck, P, D⟩)) ∧ Below w.heap.size w w' := by
  have hl1 := hid hr.rp.len
  have hl2 := hid hr.rd.len
  have hG0 := hid (Cs.new w 36 #[.int .i64 id, .int .i64 ck, .slice A1 n1 c1, .slice A2 n2 c2])
  have hB0 := hid (below1 w (.cells #[.int .i64 id, .int .i64 ck, .slice A1 n1 c1, .slice A2 n2 c2] 36))
  have hr0 := hid (hr.below hB0.out)
  obtain ⟨_, _, k1, k2, k3, k4, k5, k6⟩ := hr
  cases hI : grB id with
  | false =>
    have R := hid (vd_no (id := id) (ck := ck) (P := P) (D := D) (.inl hI))
    have hI := hid hI
    go_enter Try.func10, Try.ntmps10
    go_wp2_with (go_at_call 18; (with_reducible refine (l1Group_as hI.out _).mono ?_); rintro e w' ⟨rfl, rfl⟩)
    go_ret
    exact ⟨by rw [R.out]; rfl, hB0.out⟩
  | true =>
    have hI := hid hI
    cases hK : inB ck 0 999 with
    | false =>
      have R := hid (vd_no (id := id) (ck := ck) (P := P) (D := D) (.inr (.inl hK)))
      have hK := hid hK
      go_enter Try.func10, Try.ntmps10
      go_wp2_with (first
        | (go_at_call 18; (with_reducible refine (l1Group_as hI.out _).mono ?_); rintro e w' ⟨rfl, rfl⟩)
        | (go_at_call 19; (with_reducible refine (l6In_as hK.out _).mono ?_); rintro e w' ⟨rfl, rfl⟩))
      go_ret
      exact ⟨by rw [R.out]; rfl, hB0.out⟩
    | true =>
      have hK := hid hK
      cases hX : lsB id ck P with
      | false =>
        have R := hid (vd_no (id := id) (ck := ck) (P := P) (D := D) (.inr (.inr (.inl hX))))
        have hX := hid hX
        go_enter Try.func10, Try.ntmps10
        go_wp2_with (first
          | (go_at_call 18; (with_reducible refine (l1Group_as hI.out _).mono ?_); rintro e w' ⟨rfl, rfl⟩)
          | (go_at_call 19; (with_reducible refine (l6In_as hK.out _).mono ?_); rintro e w' ⟨rfl, rfl⟩)
          | (go_at_call 20; (with_reducible refine (l11List_as hX.out _ hr0.out.rp k1 k3 k5).mono ?_); rintro e w1 ⟨rfl, hb1⟩))
        go_ret
        exact ⟨by rw [R.out]; rfl, hB0.out.trans (hb1.mono (by simp))⟩
      | true =>
        have hX := hid hX
        go_enter Try.func10, Try.ntmps10
        go_wp2_with fail
        refine (l1Group_as hI.out _).mono ?_
        rintro e w' ⟨rfl, rfl⟩
        go_wp2_with fail
        refine (l6In_as hK.out _).mono ?_
        rintro e w' ⟨rfl, rfl⟩
        go_wp2_with fail
        refine (l11List_as hX.out _ hr0.out.rp k1 k3 k5).mono ?_
        rintro e w1 ⟨rfl, hb1⟩
        have hG1 := hid (hG0.out.step hb1)
        have hB1 := hid (hB0.out.trans (hb1.mono (by simp)))
        have hr1 := hid (hr0.out.below hb1)
        obtain ⟨q0, q1, q2, q3⟩ := hG1.out.four
        clear hb1
        cases hY : lsB id ck D with
        | false =>
          have R := hid (vd_no (id := id) (ck := ck) (P := P) (D := D) (.inr (.inr (.inr (.inl hY)))))
          have hY := hid hY
          go_wp2_with fail
          refine (l11List_as hY.out _ hr1.out.rd k2 k4 k6).mono ?_
          rintro e w2 ⟨rfl, hb2⟩
          have hB2 := hid (hB1.out.trans (hb2.mono hB1.out.size))
          clear hb2
          go_wp2
          go_ret
          exact ⟨by rw [R.out]; rfl, hB2.out⟩
        | true =>
          have hY := hid hY
          go_wp2_with fail
          refine (l11List_as hY.out _ hr1.out.rd k2 k4 k6).mono ?_
          rintro e w2 ⟨rfl, hb2⟩
          have hG2 := hid (hG1.out.step hb2)
          have hB2 := hid (hB1.out.trans (hb2.mono hB1.out.size))
          have hr2 := hid (hr1.out.below hb2)
          clear hb2 q0 q1 q2 q3 hG0 hG1 hB0 hB1 hr0 hr1
          go_wp2
          go_loopw [3] (fun i wr => ∃ k : Nat, k ≤ n2 ∧ i = .int .i64 k ∧ Hid (∀ (j : Nat) (y : En), j < k → D[j]? = some y → y.2.2 = true ∧ ∀ p ∈ P, p.1 ≠ y.1) ∧ Hid (Cs wr w.heap.size 36 #[.int .i64 id, .int .i64 ck, .slice A1 n1 c1, .slice A2 n2 c2]) ∧ Hid (RdG wr A1 n1 c1 A2 n2 c2 P D) ∧ Hid (Below w.heap.size w wr)) (fun i _ => n2 - (intOf i).toNat)
          case atStart => exact ⟨0, Nat.zero_le _, rfl, hid (fun j y h => by omega), hG2, hr2, hB2⟩
          case round =>
            obtain ⟨k, hk, rfl, hall, hG, hr, hB⟩ := hrel
            obtain ⟨q0, q1, q2, q3⟩ := hG.out.four
            obtain ⟨x0, x1, x2, x3⟩ := hG.out.fourX
            by_cases hlt : k < n2
            · obtain ⟨b, off, m, t, g, f, rfl, hx, hb, c0, c1', c2', c3⟩ := hr.out.rd.at_ hlt
              have C0 : ∀ x : BW wr, x.wd.cell? ⟨b, off + k * 4, none⟩ = some (.int .i64 m) := fun x => x.cell c0
              have C3 : ∀ x : BW wr, x.wd.cell? ⟨b, off + k * 4 + 3, none⟩ = some (.bool f) := fun x => x.cell c3
              have HRD := hid (fun x : BW wr => x.rde hr.out.rp)
              have i0 : (0 : Int) ≤ (k : Int) := by omega
              have i1 : (k : Int) < (n2 : Int) := by omega
              cases f with
              | false =>
                have R := hid (vd_no (id := id) (ck := ck) (P := P) (D := D) (.inr (.inr (.inr (.inr (.inl ⟨_, List.mem_of_getElem? hx.out, .inl rfl⟩))))))
                clear c0 c1' c2' c3
                go_wp2_with fail
                refine wp_region_below (by kernel_rfl) (by kernel_rfl) ?_
                repeat (go_big_quiet_step ((go_at_call 21; exact BW.same _ (l11Find_any _ _ (HRD.out _) (by omega)))))
                refine wpQuiet_nil ?_
                intro w3 hb3
                have hB3 := hid (hB.out.trans (hb3.mono hB.out.size))
                clear hb3
                go_wp2
                go_ret
                exact ⟨by rw [R.out]; rfl, hB3.out⟩
              | true =>
                rcases pla_cases P m with ⟨j, y, _, p1, _, p2, p3, _⟩ | ⟨_, p1, p2⟩
                · have R := hid (vd_no (id := id) (ck := ck) (P := P) (D := D) (.inr (.inr (.inr (.inr (.inl ⟨_, List.mem_of_getElem? hx.out, .inr ⟨y, List.mem_of_getElem? p2, p3⟩⟩))))))
                  have hF := hid p1
                  have hj0 : (0 : Int) ≤ (j : Int) := by omega
                  clear p1 p2 p3 c0 c1' c2' c3
                  go_wp2_with fail
                  refine wp_region_below (by kernel_rfl) (by kernel_rfl) ?_
                  repeat (go_big_quiet_step ((go_at_call 21; exact BW.same _ (l11Find_as hF.out _ (HRD.out _) (by omega)))))
                  refine wpQuiet_nil ?_
                  intro w3 hb3
                  have hB3 := hid (hB.out.trans (hb3.mono hB.out.size))
                  clear hb3
                  go_wp2
                  go_ret
                  exact ⟨by rw [R.out]; rfl, hB3.out⟩
                · have hnone := hid p2
                  have hF := hid p1
                  clear p1 p2 c0 c1' c2' c3
                  go_wp2_with fail
                  refine wp_region_below (by kernel_rfl) (by kernel_rfl) ?_
                  repeat (go_big_quiet_step ((go_at_call 21; exact BW.same _ (l11Find_as hF.out _ (HRD.out _) (by omega)))))
                  refine wpQuiet_nil ?_
                  intro w3 hb3
                  have hB3 := hid (hB.out.trans (hb3.mono hB.out.size))
                  have hG3 := hid (hG.out.step hb3)
                  have hr3 := hid (hr.out.below hb3)
                  clear hb3
                  go_wp2
                  go_roundw
                  case rel => exact ⟨k + 1, by omega, by go_num, hid (fun j y hj hy => by
                    by_cases e : j = k
                    · subst e; rw [hx.out] at hy; injection hy with hy; rw [← hy]; exact ⟨rfl, hnone.out⟩
                    · exact hall.out j y (by omega) hy), hG3, hr3, hB3⟩
                  case measure => simp [intOf]; omega
            · have hkn : Hid (∀ (j : Nat) (y : En), j < D.length → D[j]? = some y → y.2.2 = true ∧ ∀ p ∈ P, p.1 ≠ y.1) := hid (fun j y hj hy => hall.out j y (by rw [hl2.out] at hj; omega) hy)
              by_cases h0 : n1 = 0
              · have R := hid (vd_yes (id := id) (ck := ck) (P := P) (D := D) hI.out hK.out hX.out hY.out hkn.out (fun p l hp => by
                  have := hl1.out
                  rw [hp, h0] at this; simp at this))
                have hz : ((n1 : Int) == 0) = true := by simp [h0]
                clear h0
                go_wp2
                go_ret
                exact ⟨by rw [R.out]; rfl, hB.out⟩
              · have hz : ((n1 : Int) == 0) = false := by simp; omega
                have h01 : 0 < n1 := by omega
                obtain ⟨b, off, m, t, g, f, rfl, hx, hb, d0, d1, d2, d3⟩ := hr.out.rp.at_ h01
                simp only [Nat.zero_mul, Nat.add_zero] at d0 d1 d2 d3
                have D1 : ∀ x : BW wr, x.wd.cell? ⟨b, off + 1, none⟩ = some (.int .i64 t) := fun x => x.cell d1
                have D2 : ∀ x : BW wr, x.wd.cell? ⟨b, off + 2, none⟩ = some (.int .i64 g) := fun x => x.cell d2
                have D3 : ∀ x : BW wr, x.wd.cell? ⟨b, off + 3, none⟩ = some (.bool f) := fun x => x.cell d3
                have hp : Hid (∃ l, P = (m, (t, g), f) :: l) := by
                  have := hx.out
                  cases P with
                  | nil => simp at this
                  | cons p l => simp at this; rw [this]; exact hid ⟨l, rfl⟩
                have n1i : (0 : Int) < (n1 : Int) := by omega
                clear d0 d1 d2 d3 h0 hx
                cases f with
                | true =>
                  have R : Hid (vdB ⟨id, ck, P, D⟩ = false) := by
                    obtain ⟨l, hp⟩ := hp.out
                    exact hid (vd_no (.inr (.inr (.inr (.inr (.inr ⟨_, l, hp, .inl rfl⟩))))))
                  go_wp2_with fail
                  refine wp_region_below (by kernel_rfl) (by kernel_rfl) ?_
                  repeat (go_big_quiet_step (fail))
                  refine wpQuiet_nil ?_
                  intro w3 hb3
                  have hB3 := hid (hB.out.trans (hb3.mono hB.out.size))
                  clear hb3
                  go_wp2
                  go_ret
                  exact ⟨by rw [R.out]; rfl, hB3.out⟩
                | false =>
                  by_cases h2 : n2 = 0
                  · have hz2 : ((n2 : Int) == 0) = true := by simp [h2]
                    have R : Hid (vdB ⟨id, ck, P, D⟩ = true) := by
                      obtain ⟨l, hp⟩ := hp.out
                      have hD : D = [] := List.eq_nil_of_length_eq_zero (by rw [hl2.out]; exact h2)
                      refine hid (vd_yes hI.out hK.out hX.out hY.out hkn.out (fun p l' hp' => ?_))
                      rw [hp] at hp'
                      injection hp' with e1 e2
                      rw [← e1, hD]
                      exact ⟨rfl, fun d hd => by simp at hd⟩
                    clear h2
                    go_wp2_with fail
                    refine wp_region_below (by kernel_rfl) (by kernel_rfl) ?_
                    repeat (go_big_quiet_step (fail))
                    refine wpQuiet_nil ?_
                    intro w3 hb3
                    have hB3 := hid (hB.out.trans (hb3.mono hB.out.size))
                    clear hb3
                    go_wp2
                    go_ret
                    exact ⟨by rw [R.out]; rfl, hB3.out⟩
                  · have hz2 : ((n2 : Int) == 0) = false := by simp; omega
                    have h21 : n2 - 1 < n2 := by omega
                    obtain ⟨b', off', m', t', g', f', rfl, hx', hb', d0, d1, d2, d3⟩ := hr.out.rd.at_ h21
                    have X1 : ∀ x : BW wr, x.wd.cell? ⟨b', off' + (n2 - 1) * 4 + 1, none⟩ = some (.int .i64 t') := fun x => x.cell d1
                    have X2 : ∀ x : BW wr, x.wd.cell? ⟨b', off' + (n2 - 1) * 4 + 2, none⟩ = some (.int .i64 g') := fun x => x.cell d2
                    have j0 : (0 : Int) ≤ (n2 : Int) - 1 := by omega
                    have j1 : (n2 : Int) - 1 < (n2 : Int) := by omega
                    have j2 : ((n2 : Int) - 1).toNat = n2 - 1 := by omega
                    have j3 : IntKind.i64.wrap ((n2 : Int) - 1) = (n2 : Int) - 1 := IntWalk.i64_in _ (by omega)
                    have hlast : Hid (D.getLast? = some (m', (t', g'), f')) := hid (by
                      rw [List.getLast?_eq_getElem?, hl2.out]; exact hx'.out)
                    have R : Hid (vdB ⟨id, ck, P, D⟩ = lexB t' g' t g) := by
                      obtain ⟨l, hp⟩ := hp.out
                      cases hL : lexB t' g' t g with
                      | false => exact hid (vd_no (.inr (.inr (.inr (.inr (.inr ⟨_, l, hp, .inr ⟨_, hlast.out, hL⟩⟩))))))
                      | true =>
                        refine hid (vd_yes hI.out hK.out hX.out hY.out hkn.out (fun p l' hp' => ?_))
                        rw [hp] at hp'
                        injection hp' with e1 e2
                        rw [← e1, hlast.out]
                        exact ⟨rfl, fun d hd => by injection hd with hd; rw [← hd]; exact hL⟩
                    clear d0 d1 d2 d3 hx' h2
                    go_wp2_with fail
                    refine wp_region_below (by kernel_rfl) (by kernel_rfl) ?_
                    repeat (go_big_quiet_step ((go_at_call 12; exact BW.call _ (l2Less_any _ _ _ _ _))))
                    refine wpQuiet_nil ?_
                    intro w3 hb3
                    have hB3 := hid (hB.out.trans (hb3.mono hB.out.size))
                    clear hb3
                    go_wp2
                    go_ret
                    exact ⟨by rw [R.out]; rfl, hB3.out⟩
end Go.Proofs.Ytbgkinaoelicnaa
