/-
  Contracts of the program's waitLine, takeFor. No condition but lengths below 2^40.
-/
import Derived.Test.YtgeihcbiahnnaaaCeB
import Derived.Test.YtgeihcbiahnnaaaCeC
import Derived.Deep.QuietTactic
namespace Go.Proofs.Ytgeihcbiahnnaaa
open Go.RowKit
set_option linter.unusedVariables false
set_option linter.unusedSimpArgs false

/-- what waitLine hands back -/
def LinePost (c : Cr) (w : World) (e : Ending) (w' : World) : Prop :=
  ∃ (ns : List Wn) (x : Wn), e = .returned (.pointer (some ⟨x.b, 0, none⟩)) ∧ ns[0]? = some x ∧ Ln w' w.heap.size ns ∧ inL ns = gl c.h (wtB c) c.hs.length ∧ Below w.heap.size w w'

theorem gl_yes {c : Cr} {k : Nat} (h : 0 ≤ (c.h k).2) : gl c.h (wtB c) (k + 1) = gl c.h (wtB c) k ++ [((k : Int), (c.h k).2)] := by
  rw [gl_succ, if_pos (show wtB c k = true by simp [wtB, h])]

theorem gl_no {c : Cr} {k : Nat} (h : ¬ 0 ≤ (c.h k).2) : gl c.h (wtB c) (k + 1) = gl c.h (wtB c) k := by
  rw [gl_succ, if_neg (by simp [wtB, h]), List.append_nil]

set_option maxHeartbeats 4000000 in
theorem waitLine_any {A1 A2 : Option Addr} {n1 n2 c2 : Nat} {c : Cr} (w : World) (hr : RdC w A1 n1 A2 n2 c) :
    Calls Try.prog 55 #[.slice A2 n2 c2] w (LinePost c w) := by
  have hr' := hid hr
  have b2 := hr.b2
  have hl2 := hid hr.len.2
  have hL0 := hid (Ln.one w w.heap.size (Nat.le_refl _))
  have hB0 := hid (below1 w (.cells (wnC 0 0 none) 66))
  clear hr
  go_enter Try.func55, Try.ntmps55
  go_wp2
  go_loopw [4, 12] (fun l i wr => ∃ (k p : Nat) (ns : List Wn) (x : Wn), k ≤ n2 ∧ i = .int .i64 k ∧ l = .pointer (some ⟨x.b, 0, none⟩) ∧ Hid (ns.length = p + 1) ∧ Hid (ns[p]? = some x) ∧ Hid (ns[0]? = some ⟨w.heap.size, 0, 0⟩) ∧ Hid (Ln wr w.heap.size ns) ∧ Hid (inL ns = gl c.h (wtB c) k) ∧ Hid (Below w.heap.size w wr)) (fun _ i _ => n2 - (intOf i).toNat)
  case atStart => exact ⟨0, 0, [⟨w.heap.size, 0, 0⟩], ⟨w.heap.size, 0, 0⟩, by omega, rfl, rfl, hid rfl, hid rfl, hid rfl, hL0, hid rfl, hB0⟩
  case round =>
    clear hL0 hB0
    obtain ⟨k, p, ns, x, hk, rfl, rfl, hp, hx, h0, hL, hg, hB⟩ := hrel
    by_cases hlt : k < n2
    · have i0 : (0 : Int) ≤ (k : Int) := by omega
      have i1 : (k : Int) < (n2 : Int) := by omega
      have hkl : k < c.hs.length := by rw [hl2.out]; exact hlt
      obtain ⟨b, off, Ai, m, ci, rfl, hb, hm, e0, e1, hri, hmc, hci, hml⟩ := (hr'.out.step hB.out).at_ hlt
      obtain ⟨z, hz⟩ : ∃ z, (c.h k).2 = z := ⟨_, rfl⟩
      rw [hz] at e1
      have hz' := hid hz
      obtain ⟨W5, hW5⟩ : ∃ W5, (wr.alloc (.cells #[.slice Ai m ci, .int .i64 z] 49)) = W5 := ⟨_, rfl⟩
      have hC5 := hid (show Cs W5 wr.heap.size 49 #[.slice Ai m ci, .int .i64 z] by rw [← hW5]; exact Cs.new wr _ _)
      have hL5 := hid (show Ln W5 w.heap.size ns by rw [← hW5]; exact hL.out.step (below1 wr _))
      have hB5 := hid (show Below w.heap.size w W5 by rw [← hW5]; exact hB.out.alloc hB.out.size _)
      have hW5' := hid hW5
      obtain ⟨p0, p1, -, -⟩ := hC5.out.two
      clear hW5 hL hB hri hm hz
      go_upto_region 6 with (fail)
      rw [hW5'.out]
      clear hW5' e0 e1
      by_cases hz0 : 0 ≤ z
      · have hw1 := hid (show decide (0 ≤ z) = true by simp [hz0])
        have hgn := hid (show gl c.h (wtB c) (k + 1) = gl c.h (wtB c) k ++ [((k : Int), z)] by rw [gl_yes (by rw [hz'.out]; exact hz0), hz'.out])
        clear hz0
        go_wp2_with fail
        refine (waits_as hw1.out _).mono ?_
        rintro e w6 ⟨rfl, hb6⟩
        have hC6 := hid (hC5.out.step hb6)
        have hL6 := hid (hL5.out.step hb6)
        have hB6 := hid (hB5.out.trans (hb6.mono hB5.out.size))
        have hz6 := hB6.out.size
        have hxl := hL6.out.lt hx.out
        have hsw := World.setCell_alloc_past (w := w6) (.cells (wnC (k : Int) z none) 66) x.b 2 (.pointer (some ⟨w6.heap.size, 0, none⟩)) hxl
        have hL7 := hL6.out.app hp.out hx.out (k : Int) z hz6
        rw [hsw] at hL7
        replace hL7 := hid hL7
        have hx7 := hid (show (ns ++ [(⟨w6.heap.size, (k : Int), z⟩ : Wn)])[p]? = some x by rw [List.getElem?_append_left (by rw [hp.out]; omega)]; exact hx.out)
        have hy7 := hid (show (ns ++ [(⟨w6.heap.size, (k : Int), z⟩ : Wn)])[p + 1]? = some ⟨w6.heap.size, (k : Int), z⟩ by rw [List.getElem?_append_right (by rw [hp.out]; omega), hp.out]; simp)
        obtain ⟨-, -, q2, q3⟩ := (hL6.out.step (below1 w6 (.cells (wnC (k : Int) z none) 66))).cells hx.out
        obtain ⟨-, -, r2, -⟩ := hL7.out.cells hx7.out
        rw [nxP_some hy7.out] at r2
        have hlo := hid (hL6.out.lo _ _ hx.out)
        have hB7 := (hB6.out.alloc (o := .cells (wnC (k : Int) z none) 66) hz6).setCell (p := ⟨x.b, 2, none⟩) hlo.out (.pointer (some ⟨w6.heap.size, 0, none⟩))
        rw [hsw] at hB7
        replace hB7 := hid hB7
        obtain ⟨-, -, t2, t3⟩ := hL6.out.cells hx.out
        obtain ⟨q0, q1, -, -⟩ := hC6.out.two
        have h07 := hid (show (ns ++ [(⟨w6.heap.size, (k : Int), z⟩ : Wn)])[0]? = some ⟨w.heap.size, 0, 0⟩ by rw [List.getElem?_append_left (by rw [hp.out]; omega)]; exact h0.out)
        have hin := hid (show inL (ns ++ [(⟨w6.heap.size, (k : Int), z⟩ : Wn)]) = gl c.h (wtB c) (k + 1) by rw [inL_app (by rw [hp.out]; omega), hg.out, hgn.out])
        clear hb6 p0 p1 hL6 hL5 hB6 hB5 hC5 hC6 hsw
        go_wp2
        go_roundw
        case rel => exact ⟨k + 1, p + 1, _, ⟨w6.heap.size, (k : Int), z⟩, by omega, by go_num, rfl, hid (by rw [List.length_append, hp.out]; rfl), hy7, h07, hL7, hin, hB7⟩
        case measure => simp [intOf]; omega
      · have hw1 := hid (show decide (0 ≤ z) = false by simp; omega)
        have hgn := hid (show gl c.h (wtB c) (k + 1) = gl c.h (wtB c) k from gl_no (by rw [hz'.out]; exact hz0))
        clear hz0
        go_wp2_with fail
        refine (waits_as hw1.out _).mono ?_
        rintro e w6 ⟨rfl, hb6⟩
        have hL6 := hid (hL5.out.step hb6)
        have hB6 := hid (hB5.out.trans (hb6.mono hB5.out.size))
        clear hb6 p0 p1
        go_wp2
        go_roundw
        case rel => exact ⟨k + 1, p, ns, x, by omega, by go_num, rfl, hp, hx, h0, hL6, hid (by rw [hg.out, hgn.out]), hB6⟩
        case measure => simp [intOf]; omega
    · obtain rfl : k = n2 := by omega
      have hkn : ¬ ((k : Int) < (k : Int)) := by omega
      go_wp2
      go_ret
      exact ⟨ns, ⟨w.heap.size, 0, 0⟩, rfl, h0.out, hL.out, by rw [hg.out, hl2.out], hB.out⟩

/-- the block of a pointer -/
def blkOf : Value → Nat
  | .pointer (some a) => a.block
  | _ => 0

set_option maxHeartbeats 400000 in
theorem forGroup_any {b gb : Nat} {s g G : Int} {p : Option Addr} (w : World) (hC : Cs w b 66 (wnC s g p)) (hG : Cs w gb 3 #[.int .i64 G]) :
    Calls Try.prog 76 #[.pointer (some ⟨b, 0, none⟩), .pointer (some ⟨gb, 0, none⟩)] w fun e w' => e = .returned (.bool (g == G)) ∧ Qt w w' := by
  have c1 : w.cell? ⟨b, 1, none⟩ = some (.int .i64 g) := hC.cell 1
  have c2 : w.cell? ⟨gb, 0, none⟩ = some (.int .i64 G) := hG.cell 0
  replace hC := hid hC
  replace hG := hid hG
  go_enter Try.func76, Try.ntmps76
  go_wp2
  go_quiet (fail)
  go_wp2
  go_ret
  exact ⟨rfl, (Qt.refl w).drewN nq⟩

/-- what takeFor hands back: the first that waits for the group, taken out; or nothing -/
def TakeFor (ns : List Wn) (lo : Nat) (G : Int) (w : World) (e : Ending) (w' : World) : Prop :=
  (∃ (k : Nat) (x : Wn), ns[k + 1]? = some x ∧ x.g = G ∧ (∀ (j : Nat) (y : Wn), j < k → ns[j + 1]? = some y → y.g ≠ G) ∧ e = .returned (.pointer (some ⟨x.b, 0, none⟩)) ∧ Ln w' lo (ns.eraseIdx (k + 1)) ∧ Cs w' x.b 66 (wnC x.s x.g (nxP ns (k + 2))) ∧ Kp (LnS ns) w w') ∨
  ((∀ (j : Nat) (y : Wn), ns[j + 1]? = some y → y.g ≠ G) ∧ e = .returned (.pointer none) ∧ Ln w' lo ns ∧ Kp (LnS ns) w w')

set_option maxHeartbeats 4000000 in
theorem take_for {lo gb : Nat} {ns : List Wn} {x0 : Wn} {G : Int} (w : World) (hL : Ln w lo ns) (h0 : ns[0]? = some x0) (hG : Cs w gb 3 #[.int .i64 G]) :
    Calls Try.prog 59 #[.pointer (some ⟨x0.b, 0, none⟩), .func (.func 76) #[] #[.pointer (some ⟨gb, 0, none⟩)]] w (TakeFor ns lo G w) := by
  have hL' := hid hL
  have h0' := hid h0
  have hG' := hid hG
  clear hL h0 hG
  go_enter Try.func59, Try.ntmps59
  go_wp2
  go_loopw [5] (fun p wr => ∃ (k : Nat) (x : Wn), p = .pointer (some ⟨x.b, 0, none⟩) ∧ Hid (ns[k]? = some x) ∧ Hid (∀ (j : Nat) (y : Wn), j < k → ns[j + 1]? = some y → y.g ≠ G) ∧ Hid (Qt w wr)) (fun p _ => w.heap.size - blkOf p)
  case atStart => exact ⟨0, x0, rfl, h0', hid (fun j y h => by omega), hid (Qt.refl _)⟩
  case round =>
    obtain ⟨k, x, rfl, hx, hall, hq⟩ := hrel
    have hLr := hid (hL'.out.quiet hq.out)
    have hGr := hid (show Cs wr gb 3 #[.int .i64 G] by obtain ⟨q, rfl⟩ := hq.out; exact hG'.out)
    have hsz := hid hq.out.size
    cases hn : ns[k + 1]? with
    | none =>
      obtain ⟨-, -, c2, -⟩ := hLr.out.cells hx.out
      rw [nxP_none (by have := List.getElem?_eq_none_iff.1 hn; exact this)] at c2
      have hR := hid (show ∀ (j : Nat) (y : Wn), ns[j + 1]? = some y → y.g ≠ G from fun j y hy => by
        rcases Nat.lt_or_ge j k with hj | hj
        · exact hall.out j y hj hy
        · have := List.getElem?_eq_none_iff.1 hn
          have := (List.getElem?_eq_some_iff.1 hy).1
          omega)
      have hk := hid (show Kp (LnS ns) w wr by obtain ⟨q, e⟩ := hq.out; rw [e]; exact (Kp.refl _ w).drewN q)
      clear hn
      go_wp2
      go_ret
      exact .inr ⟨hR.out, rfl, hLr.out, hk.out⟩
    | some y =>
      have hy := hid hn
      obtain ⟨-, -, c2, c3⟩ := hLr.out.cells hx.out
      rw [nxP_some hn] at c2
      have hlt := hid (hLr.out.asc k (k + 1) x y (by omega) hx.out hn)
      have hyl := hid (hLr.out.lt hn)
      have hCy := hid (hLr.out.nd (k + 1) y hn)
      clear hn
      by_cases hg : y.g = G
      · have hb : (y.g == G) = true := by simp [hg]
        have hcut := hid (hLr.out.cut hx.out (u := .pointer (nxP ns (k + 2))) rfl)
        go_wp2_with fail
        refine (forGroup_any _ hCy.out hGr.out).mono ?_
        rw [hb]
        rintro e w2 ⟨rfl, hq2⟩
        obtain ⟨q, rfl⟩ := hq2
        obtain ⟨-, -, d2, -⟩ := (hLr.out.quiet ((Qt.refl wr).drewN q)).cells hy.out
        obtain ⟨-, -, -, d3⟩ := (hLr.out.quiet ((Qt.refl wr).drewN q)).cells hx.out
        have hfin := hid (hLr.out.quiet ((Qt.refl wr).drewN q))
        have hcut2 := hid (hfin.out.cut hx.out (u := .pointer (nxP ns (k + 2))) rfl)
        have hcy2 := hid (show Cs ((wr.drewN q).setCell ⟨x.b, 2, none⟩ (.pointer (nxP ns (k + 2)))) y.b 66 (wnC y.s y.g (nxP ns (k + 2))) from (hfin.out.nd (k + 1) y hy.out).far (p := ⟨x.b, 2, none⟩) (by show y.b ≠ x.b; have := hlt.out; omega) _)
        have hk2 := hid (show Kp (LnS ns) w ((wr.drewN q).setCell ⟨x.b, 2, none⟩ (.pointer (nxP ns (k + 2)))) from by
          obtain ⟨q', e⟩ := hq.out
          subst e
          exact (((Kp.refl (LnS ns) w).drewN q').drewN q).setCell (p := ⟨x.b, 2, none⟩) (.inr ⟨k, x, hx.out, rfl⟩) _)
        have hg' := hid hg
        clear hb hg hcut
        go_wp2
        go_ret
        exact .inl ⟨k, y, hy.out, hg'.out, hall.out, rfl, hcut2.out, hcy2.out, hk2.out⟩
      · have hb : (y.g == G) = false := by simp [hg]
        have hg' := hid hg
        go_wp2_with fail
        refine (forGroup_any _ hCy.out hGr.out).mono ?_
        rw [hb]
        rintro e w2 ⟨rfl, hq2⟩
        obtain ⟨q, rfl⟩ := hq2
        have hq3 := hid (hq.out.drewN q)
        have hlt2 := hlt.out
        have hyl2 := hyl.out
        have hsz2 := hsz.out
        clear hb hg
        go_wp2
        go_roundw
        case rel => exact ⟨k + 1, y, rfl, hy, hid (fun j z hj hz => by
              by_cases e : j = k
              · subst e
                rw [hy.out] at hz
                injection hz with hz
                subst hz
                exact hg'.out
              · exact hall.out j z (by omega) hz), hq3⟩
        case measure => simp [blkOf]; omega

set_option maxHeartbeats 1000000 in
theorem takeFor_any {lo : Nat} {ns : List Wn} {x0 : Wn} (G : Int) (w : World) (hL : Ln w lo ns) (h0 : ns[0]? = some x0) :
    Calls Try.prog 56 #[.pointer (some ⟨x0.b, 0, none⟩), .int .i64 G] w (TakeFor ns lo G w) := by
  have hB := hid (below1 w (.cells #[.int .i64 G] 3))
  have hG := hid (Cs.new w 3 #[.int .i64 G])
  have hL' := hid (hL.step hB.out)
  have h0' := hid h0
  clear hL h0
  go_enter Try.func56, Try.ntmps56
  go_wp2_with fail
  refine (take_for _ hL'.out h0'.out hG.out).mono ?_
  rintro e w2 (⟨k, x, h1, h2, h3, rfl, h4, h5, h6⟩ | ⟨h1, rfl, h2, h3⟩)
  · have hk := hid ((Kp.of_below (S := LnS ns) hB.out).then h6)
    have h4 := hid h4
    have h5 := hid h5
    have H := hid (And.intro h1 (And.intro h2 h3))
    clear h1 h2 h3 h6
    go_wp2
    go_ret
    exact .inl ⟨k, x, H.out.1, H.out.2.1, H.out.2.2, rfl, h4.out, h5.out, hk.out⟩
  · have hk := hid ((Kp.of_below (S := LnS ns) hB.out).then h3)
    have h1 := hid h1
    have h2 := hid h2
    clear h3
    go_wp2
    go_ret
    exact .inr ⟨h1.out, rfl, h2.out, hk.out⟩
end Go.Proofs.Ytgeihcbiahnnaaa
