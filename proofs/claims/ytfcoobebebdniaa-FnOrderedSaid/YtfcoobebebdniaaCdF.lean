/-
  Contracts of the model's readers of credits: l22Free, CreditsValid. No condition but lengths below 2^40.
-/
import Derived.Test.YtfcoobebebdniaaCdE
import Derived.Test.YtfcoobebebdniaaMgA
import Derived.Deep.DeepCutAuto
namespace Go.Proofs.Ytfcoobebebdniaa
open Go.RowKit
set_option linter.unusedVariables false
set_option linter.unusedSimpArgs false

theorem l6In_as {n lo hi : Int} {r : Bool} (h : inB n lo hi = r) (w : World) : Calls Try.prog 42 #[.int .i64 n, .int .i64 lo, .int .i64 hi] w fun e w' => e = .returned (.bool r) ∧ w = w' := by
  subst h; exact l6In_any n lo hi w

theorem getDc {zs : List Int} {k : Nat} {z : Int} (hk : k < zs.length) (h : zs.getD k 0 = z) : zs[k]? = some z := by
  rw [← h]; simp [hk]

theorem frB_bad {zs : List Int} {k : Nat} {z : Int} (hk : zs[k]? = some z) (h : inB z 0 9 = false) : frB zs = false := by
  unfold frB
  rw [Bool.and_eq_false_iff]
  left
  rw [List.all_eq_false]
  exact ⟨z, List.mem_of_getElem? hk, by rw [h]; simp⟩

theorem frB_all {zs : List Int} (h : zs.all (fun x => inB x 0 9) = true) : frB zs = decide (zs.length = 5) := by unfold frB; rw [h, Bool.true_and]

theorem all_snocI {zs : List Int} {p : Int → Bool} {k : Nat} {z : Int} (hz : zs[k]? = some z) (h : (zs.take k).all p = true) (hp : p z = true) : (zs.take (k + 1)).all p = true := by
  obtain ⟨hk, e⟩ := List.getElem?_eq_some_iff.1 hz
  rw [List.take_succ_eq_append_getElem hk, e, List.all_append, h]
  simp [hp]

set_option maxHeartbeats 1000000 in
theorem l22Free_any {B n c : Nat} {A : Option Addr} {zs : List Int} (w : World) (hr : RdI w B A n zs) (hn : n < 1099511627776) :
    Calls Try.prog 41 #[.slice A n c] w fun e w' => e = .returned (.bool (frB zs)) ∧ w = w' := by
  have hl' := hid hr.len
  have hr' := hid hr
  clear hr
  go_enter Try.func41, Try.ntmps41
  go_wp2
  go_loop [3] (fun i => ∃ k : Nat, k ≤ n ∧ i = .int .i64 k ∧ Hid ((zs.take k).all (fun x => inB x 0 9) = true)) (fun i => n - (intOf i).toNat)
  case atStart => exact ⟨0, Nat.zero_le _, rfl, hid rfl⟩
  case round =>
    obtain ⟨k, hk, rfl, hall⟩ := hrel
    by_cases hlt : k < n
    · obtain ⟨ad, z, rfl, hz, hcz⟩ := RdI.at' hr'.out hlt
      have i0 : (0 : Int) ≤ (k : Int) := by omega
      have i1 : (k : Int) < (n : Int) := by omega
      have hzg := hid (getDc (by rw [hl'.out]; exact hlt) hz.out)
      clear hz
      cases hg : inB z 0 9 with
      | false =>
        have hno := hid (frB_bad hzg.out hg)
        have hg' := hid hg
        clear hg
        go_wp2_with (go_at_call 42; (with_reducible refine (l6In_as hg'.out _).mono ?_); rintro e w1 ⟨rfl, rfl⟩)
        go_ret
        exact ⟨ret_bool hno.out.symm, rfl⟩
      | true =>
        have hnx := hid (all_snocI hzg.out hall.out hg)
        have hg' := hid hg
        clear hg
        go_wp2_with (go_at_call 42; (with_reducible refine (l6In_as hg'.out _).mono ?_); rintro e w1 ⟨rfl, rfl⟩)
        go_round
        case rel => exact ⟨k + 1, by omega, by go_num, hnx⟩
        case measure => simp [intOf]; omega
    · have hfin := hid (show frB zs = decide (n = 5) by
        have := hall.out
        rw [List.take_of_length_le (by rw [hl'.out]; omega)] at this
        rw [frB_all this, hl'.out])
      have hkn : ¬ ((k : Int) < (n : Int)) := by omega
      go_wp2
      go_ret
      exact ⟨ret_bool (by rw [hfin.out]; first | rfl | (simp; omega) | (rw [Bool.eq_iff_iff]; simp; omega)), rfl⟩

theorem l22Free_as {B n c : Nat} {A : Option Addr} {zs : List Int} {r : Bool} (h : frB zs = r) (w : World) (hr : RdI w B A n zs) (hn : n < 1099511627776) :
    Calls Try.prog 41 #[.slice A n c] w fun e w' => e = .returned (.bool r) ∧ w = w' := by
  subst h; exact l22Free_any w hr hn

theorem GroupsValid_as {B n c : Nat} {A : Option Addr} {zs : List Int} {r : Bool} (h : gvalid zs = r) (w : World) (hr : RdI w B A n zs) (hn : n < 1099511627776) :
    Calls Try.prog 66 #[.slice A n c] w fun e w' => e = .returned (.bool r) ∧ Qt w w' := by
  subst h; exact GroupsValid_spec w hr hn

theorem l1Has_cas {B n c : Nat} {A : Option Addr} {zs : List Int} {x : Int} {r : Bool} (h : hasB zs x = r) (w : World) (hr : RdI w B A n zs) (hn : n < 1099511627776) :
    Calls Try.prog 62 #[.slice A n c, .int .i64 x] w fun e w' => e = .returned (.bool r) ∧ w = w' := by
  subst h; exact l1Has_any x w hr hn

theorem hoB_w {fr : List Int} {zs : List Int} {x : Int} (h : setB zs = true) (hx : inB x (-1) 4 = true) (h0 : x < 0) : hoB fr (zs, x) = true := by
  have : decide (0 ≤ x) = false := by simp; omega
  unfold hoB; simp only [h, hx, this]; rfl

theorem hoB_s {fr : List Int} {zs : List Int} {x : Int} (h : setB zs = false) : hoB fr (zs, x) = false := by unfold hoB; simp only [h]; rfl

theorem hoB_x {fr : List Int} {zs : List Int} {x : Int} (h : inB x (-1) 4 = false) : hoB fr (zs, x) = false := by unfold hoB; simp only [h]; simp

theorem hoB_n {fr : List Int} {zs : List Int} {q : Nat} {z : Int} (h : setB zs = true) (hx : inB (q : Int) (-1) 4 = true) (hz : fr.getD q 0 = z) : hoB fr (zs, (q : Int)) = !(decide (0 < z) || hasB zs (q : Int)) := by
  have : decide (0 ≤ (q : Int)) = true := by simp
  unfold hoB; simp only [h, hx, this, Int.toNat_natCast, hz]; simp

theorem setB_0 {zs : List Int} (h : zs.length = 0) : setB zs = true := by unfold setB; simp [h]

theorem setB_g {zs : List Int} (h : gvalid zs = true) : setB zs = true := by unfold setB; rw [h]; simp

theorem setB_no {zs : List Int} (h0 : 0 < zs.length) (h : gvalid zs = false) : setB zs = false := by unfold setB; rw [h]; simp; intro e; rw [e] at h0; simp at h0

theorem crB_fr {c : Cr} (h : frB c.fr = false) : crB c = false := by unfold crB; rw [h]; rfl

theorem crB_n {c : Cr} (h : inB c.hs.length 1 6 = false) : crB c = false := by unfold crB; rw [h]; simp

theorem crB_h {c : Cr} {i : Nat} (hi : i < c.hs.length) (h : hoB c.fr (c.h i) = false) : crB c = false := by
  unfold crB
  rw [Bool.and_eq_false_iff]
  right
  rw [List.all_eq_false]
  exact ⟨_, List.mem_of_getElem? (at_h hi), by rw [h]; simp⟩

theorem crB_of {c : Cr} (h1 : frB c.fr = true) (h2 : inB c.hs.length 1 6 = true) (h3 : ∀ i, i < c.hs.length → hoB c.fr (c.h i) = true) : crB c = true := by
  unfold crB
  rw [h1, h2, Bool.true_and, Bool.true_and, List.all_eq_true]
  intro x hx
  obtain ⟨i, hi, rfl⟩ := List.getElem_of_mem hx
  have e : c.h i = c.hs[i] := h_at (List.getElem?_eq_getElem hi)
  rw [← e]
  exact h3 i hi

set_option maxHeartbeats 4000000 in
theorem CreditsValid_spec {A1 A2 : Option Addr} {n1 n2 c1 c2 : Nat} {c : Cr} (w : World) (hr : RdC w A1 n1 A2 n2 c) :
    Calls Try.prog 34 #[crV (.slice A1 n1 c1) (.slice A2 n2 c2)] w fun e w' => e = .returned (.bool (crB c)) ∧ Below w.heap.size w w' := by
  obtain ⟨W, hW⟩ : ∃ W, w.alloc (.cells #[.slice A1 n1 c1, .slice A2 n2 c2] 28) = W := ⟨_, rfl⟩
  have hB := hid (show Below w.heap.size w W by rw [← hW]; exact below1 w _)
  have hC := hid (show Cs W w.heap.size 28 #[.slice A1 n1 c1, .slice A2 n2 c2] by rw [← hW]; exact Cs.new w _ _)
  have hR := hid (show RdC W A1 n1 A2 n2 c by rw [← hW]; exact hr.alloc _)
  obtain ⟨l1, l2⟩ := hr.len
  have l1' := hid l1
  have l2' := hid l2
  have b1 := hr.b1
  have b2 := hr.b2
  replace hW := hid hW
  clear hr l1 l2
  obtain ⟨d0, d1, -, -⟩ := hC.out.two
  have hRf := hid hR.out.f
  cases hf : frB c.fr with
  | false =>
    have hno := hid (crB_fr hf)
    have hf' := hid hf
    clear hf
    go_enter Try.func34, Try.ntmps34
    go_upto_region 1 with (fail)
    rw [hW.out]
    go_wp2_with (go_at_call 41; (with_reducible refine (l22Free_as hf'.out _ hRf.out b1).mono ?_); rintro e w1 ⟨rfl, rfl⟩)
    go_ret
    exact ⟨ret_bool hno.out.symm, hB.out⟩
  | true =>
    have hf' := hid hf
    have hf5 := hid (frB_true.1 hf)
    clear hf
    cases hn6 : inB (c.hs.length : Int) 1 6 with
    | false =>
      have hno := hid (crB_n hn6)
      have hn6' : Hid (inB (n2 : Int) 1 6 = false) := hid (by rw [← l2'.out]; exact hn6)
      clear hn6
      go_enter Try.func34, Try.ntmps34
      go_upto_region 1 with (fail)
      rw [hW.out]
      go_wp2_with (first | (go_at_call 41; (with_reducible refine (l22Free_as hf'.out _ hRf.out b1).mono ?_); rintro e w1 ⟨rfl, rfl⟩) | (go_at_call 42; (with_reducible refine (l6In_as hn6'.out _).mono ?_); rintro e w1 ⟨rfl, rfl⟩))
      go_ret
      exact ⟨ret_bool hno.out.symm, hB.out⟩
    | true =>
      have hn6t := hid hn6
      have hn6' : Hid (inB (n2 : Int) 1 6 = true) := hid (by rw [← l2'.out]; exact hn6)
      clear hn6
      go_enter Try.func34, Try.ntmps34
      go_upto_region 1 with (fail)
      rw [hW.out]
      go_wp2_with (first | (go_at_call 41; (with_reducible refine (l22Free_as hf'.out _ hRf.out b1).mono ?_); rintro e w1 ⟨rfl, rfl⟩) | (go_at_call 42; (with_reducible refine (l6In_as hn6'.out _).mono ?_); rintro e w1 ⟨rfl, rfl⟩))
      clear d0 d1
      go_loopw [3] (fun i wr => ∃ k : Nat, k ≤ n2 ∧ i = .int .i64 k ∧ Hid (Below W.heap.size W wr) ∧ Hid (∀ j, j < k → hoB c.fr (c.h j) = true)) (fun i _ => n2 - (intOf i).toNat)
      case atStart => exact ⟨0, Nat.zero_le _, rfl, hid (Below.refl _ _), hid (fun j h => by omega)⟩
      case round =>
        obtain ⟨k, hk, rfl, hbr, hall⟩ := hrel
        obtain ⟨d0, d1, -, -⟩ := (hC.out.step hbr.out).two
        have hRw := hid (hR.out.step hbr.out)
        have hBw := hid (hB.out.trans (hbr.out.mono hB.out.size))
        by_cases hlt : k < n2
        · have hkl : k < c.hs.length := by rw [l2'.out]; exact hlt
          have i0 : (0 : Int) ≤ (k : Int) := by omega
          have i1 : (k : Int) < (n2 : Int) := by omega
          obtain ⟨b, off, Ai, m, ci, rfl, hb, hm, e0, e1, hri, hmc, hci, hml⟩ := hRw.out.at_ hlt
          obtain ⟨x, hx⟩ : ∃ x, (c.h k).2 = x := ⟨_, rfl⟩
          obtain ⟨zs, hzs⟩ : ∃ zs, (c.h k).1 = zs := ⟨_, rfl⟩
          have hhk : Hid (c.h k = (zs, x)) := hid (by rw [← hx, ← hzs])
          rw [hx] at e1
          rw [hzs] at hm hri
          obtain ⟨W2, hW2⟩ : ∃ W2, wr.alloc (.cells #[.slice Ai m ci, .int .i64 x] 33) = W2 := ⟨_, rfl⟩
          have hC2 := hid (show Cs W2 wr.heap.size 33 #[.slice Ai m ci, .int .i64 x] by rw [← hW2]; exact Cs.new wr _ _)
          have hbr2 := hid (show Below W.heap.size W W2 by rw [← hW2]; exact hbr.out.alloc hbr.out.size _)
          have hri2 := hid (show RdI W2 wr.heap.size Ai m zs by rw [← hW2]; exact Reads.alloc hri.out (Nat.le_refl _) _)
          have hf2 := hid (show RdI W2 wr.heap.size A1 n1 c.fr by rw [← hW2]; exact Reads.alloc hRw.out.f (Nat.le_refl _) _)
          obtain ⟨p0, p1, -, -⟩ := hC2.out.two
          have q0 : W2.cell? ⟨w.heap.size, 0, none⟩ = some (.slice A1 n1 c1) := by rw [← hW2]; exact (World.cell?_alloc_lt wr _ ⟨w.heap.size, 0, none⟩ (World.block_lt_of_cell? wr _ d0)).trans d0
          have q1 : W2.cell? ⟨w.heap.size, 1, none⟩ = some (.slice (some ⟨b, off, none⟩) n2 c2) := by rw [← hW2]; exact (World.cell?_alloc_lt wr _ ⟨w.heap.size, 1, none⟩ (World.block_lt_of_cell? wr _ d1)).trans d1
          have hBw2 := hid (hB.out.trans (hbr2.out.mono hB.out.size))
          replace hW2 := hid hW2
          clear hx hzs hri hRw hbr hBw
          by_cases hm0 : m = 0
          · have hset := hid (setB_0 (hm.out.trans hm0))
            have g0 : ¬ ((0 : Int) < (m : Int)) := by omega
            clear hm0
            cases hin : inB x (-1) 4 with
            | false =>
              have hno := hid (hoB_x (fr := c.fr) (zs := zs) hin)
              have hin' := hid hin
              clear hin
              go_upto_region 7 with (fail)
              rw [hW2.out]
              go_wp2_with (first | (go_at_call 42; (with_reducible refine (l6In_as hin'.out _).mono ?_); rintro e w3 ⟨rfl, rfl⟩))
              go_ret
              exact ⟨ret_bool (crB_h hkl (by rw [hhk.out]; exact hno.out)).symm, hBw2.out⟩
            | true =>
              have hin' := hid hin
              by_cases hx0 : x < 0
              · have hyes := hid (hoB_w (fr := c.fr) hset.out hin hx0)
                have hx1 : ¬ ((0 : Int) ≤ x) := by omega
                clear hin
                go_upto_region 7 with (fail)
                rw [hW2.out]
                go_wp2_with (first | (go_at_call 42; (with_reducible refine (l6In_as hin'.out _).mono ?_); rintro e w3 ⟨rfl, rfl⟩))
                go_roundw
                case rel => exact ⟨k + 1, by omega, by go_num, hid hbr2.out, hid (fun j hj => by
                      by_cases e : j = k
                      · subst e; rw [hhk.out]; exact hyes.out
                      · exact hall.out j (by omega))⟩
                case measure => simp [intOf]; omega
              · obtain ⟨q, rfl⟩ := Int.eq_ofNat_of_zero_le (show 0 ≤ x by omega)
                have hq4 := (inB_true.1 hin).2
                have hq5 : q < n1 := by rw [← l1'.out, hf5.out.1]; omega
                obtain ⟨ad, z, e9, hz, hcz⟩ := RdI.at' hf2.out hq5
                subst e9
                have hkey := hoB_n (fr := c.fr) hset.out hin hz.out
                have x0 : (0 : Int) ≤ (q : Int) := by omega
                have x1 : (q : Int) < (n1 : Int) := by omega
                clear hin hx0 hz
                by_cases hz0 : 0 < z
                · have hno : Hid (hoB c.fr (zs, (q : Int)) = false) := hid (by rw [hkey]; simp [hz0])
                  clear hkey
                  go_upto_region 7 with (fail)
                  rw [hW2.out]
                  go_wp2_with (first | (go_at_call 42; (with_reducible refine (l6In_as hin'.out _).mono ?_); rintro e w3 ⟨rfl, rfl⟩))
                  go_ret
                  exact ⟨ret_bool (crB_h hkl (by rw [hhk.out]; exact hno.out)).symm, hBw2.out⟩
                · have hz1 : decide (0 < z) = false := by simpa using hz0
                  rw [hz1, Bool.false_or] at hkey
                  cases hh : hasB zs (q : Int) with
                  | true =>
                    have hno : Hid (hoB c.fr (zs, (q : Int)) = false) := hid (by rw [hkey, hh]; rfl)
                    have hh' := hid hh
                    clear hkey hh
                    go_upto_region 7 with (fail)
                    rw [hW2.out]
                    go_wp2_with (first | (go_at_call 42; (with_reducible refine (l6In_as hin'.out _).mono ?_); rintro e w3 ⟨rfl, rfl⟩) | (go_at_call 62; (with_reducible refine (l1Has_cas hh'.out _ hri2.out hml).mono ?_); rintro e w4 ⟨rfl, rfl⟩))
                    go_ret
                    exact ⟨ret_bool (crB_h hkl (by rw [hhk.out]; exact hno.out)).symm, hBw2.out⟩
                  | false =>
                    have hyes : Hid (hoB c.fr (zs, (q : Int)) = true) := hid (by rw [hkey, hh]; rfl)
                    have hh' := hid hh
                    clear hkey hh
                    go_upto_region 7 with (fail)
                    rw [hW2.out]
                    go_wp2_with (first | (go_at_call 42; (with_reducible refine (l6In_as hin'.out _).mono ?_); rintro e w3 ⟨rfl, rfl⟩) | (go_at_call 62; (with_reducible refine (l1Has_cas hh'.out _ hri2.out hml).mono ?_); rintro e w4 ⟨rfl, rfl⟩))
                    go_roundw
                    case rel => exact ⟨k + 1, by omega, by go_num, hid hbr2.out, hid (fun j hj => by
                          by_cases e : j = k
                          · subst e; rw [hhk.out]; exact hyes.out
                          · exact hall.out j (by omega))⟩
                    case measure => simp [intOf]; omega
          · have g0 : (0 : Int) < (m : Int) := by omega
            cases hg : gvalid zs with
            | false =>
              have hno := hid (hoB_s (fr := c.fr) (x := x) (setB_no (by rw [hm.out]; omega) hg))
              have hg' := hid hg
              clear hg hm0
              go_upto_region 7 with (fail)
              rw [hW2.out]
              go_wp2_with (go_at_call 66; (with_reducible refine (GroupsValid_as hg'.out _ hri2.out hml).mono ?_); rintro e w3 ⟨rfl, hq⟩; obtain ⟨nq, rfl⟩ := hq)
              go_ret
              exact ⟨ret_bool (crB_h hkl (by rw [hhk.out]; exact hno.out)).symm, (show Below w.heap.size w (W2.drewN nq) from ⟨hBw2.out.os, hBw2.out.tape, hBw2.out.output, hBw2.out.size, hBw2.out.block⟩)⟩
            | true =>
              have hset := hid (setB_g hg)
              have hg' := hid hg
              clear hg hm0
              cases hin : inB x (-1) 4 with
              | false =>
                have hno := hid (hoB_x (fr := c.fr) (zs := zs) hin)
                have hin' := hid hin
                clear hin
                go_upto_region 7 with (fail)
                rw [hW2.out]
                go_wp2_with (first | (go_at_call 66; (with_reducible refine (GroupsValid_as hg'.out _ hri2.out hml).mono ?_); rintro e w3 ⟨rfl, hq⟩; obtain ⟨nq, rfl⟩ := hq) | (go_at_call 42; (with_reducible refine (l6In_as hin'.out _).mono ?_); rintro e w3 ⟨rfl, rfl⟩))
                go_ret
                exact ⟨ret_bool (crB_h hkl (by rw [hhk.out]; exact hno.out)).symm, (show Below w.heap.size w (W2.drewN nq) from ⟨hBw2.out.os, hBw2.out.tape, hBw2.out.output, hBw2.out.size, hBw2.out.block⟩)⟩
              | true =>
                have hin' := hid hin
                by_cases hx0 : x < 0
                · have hyes := hid (hoB_w (fr := c.fr) hset.out hin hx0)
                  have hx1 : ¬ ((0 : Int) ≤ x) := by omega
                  clear hin
                  go_upto_region 7 with (fail)
                  rw [hW2.out]
                  go_wp2_with (first | (go_at_call 66; (with_reducible refine (GroupsValid_as hg'.out _ hri2.out hml).mono ?_); rintro e w3 ⟨rfl, hq⟩; obtain ⟨nq, rfl⟩ := hq) | (go_at_call 42; (with_reducible refine (l6In_as hin'.out _).mono ?_); rintro e w3 ⟨rfl, rfl⟩))
                  go_roundw
                  case rel => exact ⟨k + 1, by omega, by go_num, hid (show Below W.heap.size W (W2.drewN nq) from ⟨hbr2.out.os, hbr2.out.tape, hbr2.out.output, hbr2.out.size, hbr2.out.block⟩), hid (fun j hj => by
                        by_cases e : j = k
                        · subst e; rw [hhk.out]; exact hyes.out
                        · exact hall.out j (by omega))⟩
                  case measure => simp [intOf]; omega
                · obtain ⟨q, rfl⟩ := Int.eq_ofNat_of_zero_le (show 0 ≤ x by omega)
                  have hq4 := (inB_true.1 hin).2
                  have hq5 : q < n1 := by rw [← l1'.out, hf5.out.1]; omega
                  obtain ⟨ad, z, e9, hz, hcz⟩ := RdI.at' hf2.out hq5
                  subst e9
                  have hkey := hoB_n (fr := c.fr) hset.out hin hz.out
                  have x0 : (0 : Int) ≤ (q : Int) := by omega
                  have x1 : (q : Int) < (n1 : Int) := by omega
                  clear hin hx0 hz
                  by_cases hz0 : 0 < z
                  · have hno : Hid (hoB c.fr (zs, (q : Int)) = false) := hid (by rw [hkey]; simp [hz0])
                    clear hkey
                    go_upto_region 7 with (fail)
                    rw [hW2.out]
                    go_wp2_with (first | (go_at_call 66; (with_reducible refine (GroupsValid_as hg'.out _ hri2.out hml).mono ?_); rintro e w3 ⟨rfl, hq⟩; obtain ⟨nq, rfl⟩ := hq) | (go_at_call 42; (with_reducible refine (l6In_as hin'.out _).mono ?_); rintro e w3 ⟨rfl, rfl⟩))
                    go_ret
                    exact ⟨ret_bool (crB_h hkl (by rw [hhk.out]; exact hno.out)).symm, (show Below w.heap.size w (W2.drewN nq) from ⟨hBw2.out.os, hBw2.out.tape, hBw2.out.output, hBw2.out.size, hBw2.out.block⟩)⟩
                  · have hz1 : decide (0 < z) = false := by simpa using hz0
                    rw [hz1, Bool.false_or] at hkey
                    cases hh : hasB zs (q : Int) with
                    | true =>
                      have hno : Hid (hoB c.fr (zs, (q : Int)) = false) := hid (by rw [hkey, hh]; rfl)
                      have hh' := hid hh
                      clear hkey hh
                      go_upto_region 7 with (fail)
                      rw [hW2.out]
                      go_wp2_with (first | (go_at_call 66; (with_reducible refine (GroupsValid_as hg'.out _ hri2.out hml).mono ?_); rintro e w3 ⟨rfl, hq⟩; obtain ⟨nq, rfl⟩ := hq) | (go_at_call 42; (with_reducible refine (l6In_as hin'.out _).mono ?_); rintro e w3 ⟨rfl, rfl⟩) | (go_at_call 62; (with_reducible refine (l1Has_cas hh'.out _ (Reads.drewN hri2.out _) hml).mono ?_); rintro e w4 ⟨rfl, rfl⟩))
                      go_ret
                      exact ⟨ret_bool (crB_h hkl (by rw [hhk.out]; exact hno.out)).symm, (show Below w.heap.size w (W2.drewN nq) from ⟨hBw2.out.os, hBw2.out.tape, hBw2.out.output, hBw2.out.size, hBw2.out.block⟩)⟩
                    | false =>
                      have hyes : Hid (hoB c.fr (zs, (q : Int)) = true) := hid (by rw [hkey, hh]; rfl)
                      have hh' := hid hh
                      clear hkey hh
                      go_upto_region 7 with (fail)
                      rw [hW2.out]
                      go_wp2_with (first | (go_at_call 66; (with_reducible refine (GroupsValid_as hg'.out _ hri2.out hml).mono ?_); rintro e w3 ⟨rfl, hq⟩; obtain ⟨nq, rfl⟩ := hq) | (go_at_call 42; (with_reducible refine (l6In_as hin'.out _).mono ?_); rintro e w3 ⟨rfl, rfl⟩) | (go_at_call 62; (with_reducible refine (l1Has_cas hh'.out _ (Reads.drewN hri2.out _) hml).mono ?_); rintro e w4 ⟨rfl, rfl⟩))
                      go_roundw
                      case rel => exact ⟨k + 1, by omega, by go_num, hid (show Below W.heap.size W (W2.drewN nq) from ⟨hbr2.out.os, hbr2.out.tape, hbr2.out.output, hbr2.out.size, hbr2.out.block⟩), hid (fun j hj => by
                            by_cases e : j = k
                            · subst e; rw [hhk.out]; exact hyes.out
                            · exact hall.out j (by omega))⟩
                      case measure => simp [intOf]; omega
        · obtain rfl : k = n2 := by omega
          have hyes := hid (crB_of hf'.out hn6t.out (fun i hi => hall.out i (by rw [← l2'.out]; exact hi)))
          have hkn : ¬ ((k : Int) < (k : Int)) := by omega
          go_wp2
          go_ret
          exact ⟨ret_bool hyes.out.symm, hBw.out⟩
end Go.Proofs.Ytfcoobebebdniaa
