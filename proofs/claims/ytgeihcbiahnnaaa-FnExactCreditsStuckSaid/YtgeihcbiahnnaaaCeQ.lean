/-
  Contract of the program's CreditsStuck. No condition but lengths below 2^40.
-/
import Derived.Test.YtgeihcbiahnnaaaCeP
import Derived.Test.YtgeihcbiahnnaaaCdD
import Derived.Deep.LoopGhost
namespace Go.Proofs.Ytgeihcbiahnnaaa
open Go.RowKit
set_option linter.unusedVariables false
set_option linter.unusedSimpArgs false

set_option maxHeartbeats 1000000 in
theorem mayGo_any {A1 A2 : Option Addr} {n1 n2 c1 c2 lo b cb lb : Nat} {c : Cr} {ns : List Wn} {x0 : Wn} {s g : Int} {p : Option Addr} (w : World) (hr : RdC w A1 n1 A2 n2 c) (hL : Ln w lo ns) (h0 : ns[0]? = some x0) (hn : ns.length < 1000000)
    (hC : Cs w cb 25 #[.slice A1 n1 c1, .slice A2 n2 c2]) (hl : Cs w lb 62 #[.pointer (some ⟨x0.b, 0, none⟩)]) (hb : Cs w b 66 (wnC s g p)) :
    Calls Try.prog 57 #[.pointer (some ⟨b, 0, none⟩), .pointer (some ⟨cb, 0, none⟩), .pointer (some ⟨lb, 0, none⟩)] w fun e w' => e = .returned (.bool (mayB c ((inL ns).map (fun x => x.1)) g)) ∧ Below w.heap.size w w' := by
  have C0 : ∀ y : BW w, y.wd.cell? ⟨cb, 0, none⟩ = some (.slice A1 n1 c1) := fun y => y.cell (hC.cell 0)
  have C1 : ∀ y : BW w, y.wd.cell? ⟨cb, 1, none⟩ = some (.slice A2 n2 c2) := fun y => y.cell (hC.cell 1)
  have L0 : ∀ y : BW w, y.wd.cell? ⟨lb, 0, none⟩ = some (.pointer (some ⟨x0.b, 0, none⟩)) := fun y => y.cell (hl.cell 0)
  have B1 : ∀ y : BW w, y.wd.cell? ⟨b, 1, none⟩ = some (.int .i64 g) := fun y => y.cell (hb.cell 1)
  have RC := hid (fun (y : BW w) => hr.step y.below)
  have LY := hid (fun (y : BW w) => hL.step y.below)
  have h0' := hid h0
  clear hr hL h0 hC hl hb
  go_enter Try.func57, Try.ntmps57
  go_wp2_with fail
  refine wp_region_below (by kernel_rfl) (by kernel_rfl) ?_
  repeat (go_big_quiet_step ((go_at_call 58; exact BW.call _ (mayCome_any g _ (RC.out _) (LY.out _) h0'.out hn))))
  refine wpQuiet_nil ?_
  intro w1 hb1
  have hb1' := hid hb1
  clear C0 C1 L0 B1 hb1
  go_wp2
  go_ret
  exact ⟨rfl, hb1'.out⟩

/-- what take hands back where a sender may go on: the first such, taken out; or nothing -/
def TakeGo (ns : List Wn) (lo : Nat) (p : Int → Bool) (w : World) (e : Ending) (w' : World) : Prop :=
  (∃ (k : Nat) (x : Wn), ns[k + 1]? = some x ∧ p x.g = true ∧ e = .returned (.pointer (some ⟨x.b, 0, none⟩)) ∧ Ln w' lo (ns.eraseIdx (k + 1)) ∧ Kp (LnS ns) w w') ∨
  ((∀ (j : Nat) (y : Wn), ns[j + 1]? = some y → p y.g = false) ∧ e = .returned (.pointer none) ∧ Ln w' lo ns ∧ Kp (LnS ns) w w')

set_option maxHeartbeats 4000000 in
theorem take_go {A1 A2 : Option Addr} {n1 n2 c1 c2 lo cb lb : Nat} {c : Cr} {ns : List Wn} {x0 : Wn} (w : World) (hr : RdC w A1 n1 A2 n2 c) (hL : Ln w lo ns) (h0 : ns[0]? = some x0) (hn : ns.length < 1000000)
    (hC : Cs w cb 25 #[.slice A1 n1 c1, .slice A2 n2 c2]) (hl : Cs w lb 62 #[.pointer (some ⟨x0.b, 0, none⟩)]) :
    Calls Try.prog 59 #[.pointer (some ⟨x0.b, 0, none⟩), .func (.func 57) #[] #[.pointer (some ⟨cb, 0, none⟩), .pointer (some ⟨lb, 0, none⟩)]] w (TakeGo ns lo (mayB c ((inL ns).map (fun x => x.1))) w) := by
  have hr' := hid hr
  have hL' := hid hL
  have h0' := hid h0
  have hC' := hid hC
  have hl' := hid hl
  obtain ⟨P, hP⟩ : ∃ P, mayB c ((inL ns).map (fun x => x.1)) = P := ⟨_, rfl⟩
  rw [hP]
  have hP' := hid hP
  clear hr hL h0 hC hl hP
  go_enter Try.func59, Try.ntmps59
  go_wp2
  go_loopw [5] (fun p wr => ∃ (k : Nat) (x : Wn), p = .pointer (some ⟨x.b, 0, none⟩) ∧ Hid (ns[k]? = some x) ∧ Hid (∀ (j : Nat) (y : Wn), j < k → ns[j + 1]? = some y → P y.g = false) ∧ Hid (Below w.heap.size w wr)) (fun p _ => w.heap.size - blkOf p)
  case atStart => exact ⟨0, x0, rfl, h0', hid (fun j y h => by omega), hid (Below.refl _ _)⟩
  case round =>
    obtain ⟨k, x, rfl, hx, hall, hq⟩ := hrel
    have hLr := hid (hL'.out.step hq.out)
    have hCr := hid (hC'.out.step hq.out)
    have hlr := hid (hl'.out.step hq.out)
    have hRr := hid (hr'.out.step hq.out)
    cases hn2 : ns[k + 1]? with
    | none =>
      obtain ⟨-, -, c2, -⟩ := hLr.out.cells hx.out
      rw [nxP_none (by have := List.getElem?_eq_none_iff.1 hn2; exact this)] at c2
      have hR := hid (show ∀ (j : Nat) (y : Wn), ns[j + 1]? = some y → P y.g = false from fun j y hy => by
        rcases Nat.lt_or_ge j k with hj | hj
        · exact hall.out j y hj hy
        · have := List.getElem?_eq_none_iff.1 hn2
          have := (List.getElem?_eq_some_iff.1 hy).1
          omega)
      have hk := hid (Kp.of_below (S := LnS ns) hq.out)
      clear hn2
      go_wp2
      go_ret
      exact .inr ⟨hR.out, rfl, hLr.out, hk.out⟩
    | some y =>
      have hy := hid hn2
      obtain ⟨-, -, c2, c3⟩ := hLr.out.cells hx.out
      rw [nxP_some hn2] at c2
      have hlt := hid (hLr.out.asc k (k + 1) x y (by omega) hx.out hn2)
      have hyl := hid (hL'.out.lt hn2)
      have hCy := hid (hLr.out.nd (k + 1) y hn2)
      clear hn2
      cases hg : P y.g with
      | true =>
        have hg' := hid hg
        clear hg
        go_wp2_with fail
        refine (mayGo_any _ hRr.out hLr.out h0'.out hn hCr.out hlr.out hCy.out).mono ?_
        rw [hP'.out, hg'.out]
        rintro e w2 ⟨rfl, hb2⟩
        have hL2 := hid (hLr.out.step hb2)
        have hB2 := hid (hq.out.trans (hb2.mono hq.out.size))
        clear hb2 c2 c3
        obtain ⟨-, -, d2, -⟩ := hL2.out.cells hy.out
        obtain ⟨-, -, e2, e3⟩ := hL2.out.cells hx.out
        rw [nxP_some hy.out] at e2
        have hcut2 := hid (hL2.out.cut hx.out (u := .pointer (nxP ns (k + 2))) rfl)
        have hk2 := hid ((Kp.of_below (S := LnS ns) hB2.out).setCell (p := ⟨x.b, 2, none⟩) (.inr ⟨k, x, hx.out, rfl⟩) (.pointer (nxP ns (k + 2))))
        go_wp2
        go_ret
        exact .inl ⟨k, y, hy.out, hg'.out, rfl, hcut2.out, hk2.out⟩
      | false =>
        have hg' := hid hg
        clear hg
        go_wp2_with fail
        refine (mayGo_any _ hRr.out hLr.out h0'.out hn hCr.out hlr.out hCy.out).mono ?_
        rw [hP'.out, hg'.out]
        rintro e w2 ⟨rfl, hb2⟩
        have hL2 := hid (hLr.out.step hb2)
        have hB2 := hid (hq.out.trans (hb2.mono hq.out.size))
        clear hb2 c2 c3
        obtain ⟨-, -, d2, -⟩ := hL2.out.cells hy.out
        obtain ⟨-, -, e2, e3⟩ := hL2.out.cells hx.out
        rw [nxP_some hy.out] at e2
        have hlt2 := hlt.out
        have hyl2 := hyl.out
        go_wp2
        go_roundw
        case rel => exact ⟨k + 1, y, rfl, hy, hid (fun j z hj hz => by
              by_cases e : j = k
              · subst e
                rw [hy.out] at hz
                injection hz with hz
                subst hz
                exact hg'.out
              · exact hall.out j z (by omega) hz), hB2⟩
        case measure => simp [blkOf]; omega

theorem mayB_true {c : Cr} {L : List Int} {g : Int} : mayB c L g = true ↔ ∃ k, k < c.hs.length ∧ g ∈ (c.h k).1 ∧ (k : Int) ∉ L := by
  unfold mayB
  rw [List.any_eq_true]
  constructor
  · rintro ⟨k, hk, e⟩
    rw [Bool.and_eq_true, hasB_iff, Bool.not_eq_true', Bool.eq_false_iff] at e
    exact ⟨k, List.mem_range.1 hk, e.1, fun h => e.2 (hasB_iff.2 h)⟩
  · rintro ⟨k, hk, e1, e2⟩
    exact ⟨k, List.mem_range.2 hk, by rw [Bool.and_eq_true, hasB_iff, Bool.not_eq_true', Bool.eq_false_iff]; exact ⟨e1, fun h => e2 (hasB_iff.1 h)⟩⟩

theorem gl_fst_mem {c : Cr} {D : Nat → Bool} {n k : Nat} : (k : Int) ∈ (gl c.h D n).map (fun x => x.1) ↔ k < n ∧ D k = true := by
  rw [List.mem_map]
  constructor
  · rintro ⟨x, hx, e⟩
    obtain ⟨i, h1, h2, rfl⟩ := mem_gl hx
    have e2 : (i : Int) = (k : Int) := e
    have : i = k := by omega
    subst this
    exact ⟨h1, h2⟩
  · rintro ⟨h1, h2⟩
    exact ⟨_, gl_mem (H := c.h) h1 h2, rfl⟩
/-- the credits and the line that is left of those who wait -/
structure Lft (c : Cr) (D : Nat → Bool) (ns : List Wn) : Prop where
  inl : inL ns = gl c.h D c.hs.length
  wt : ∀ i, i < c.hs.length → D i = true → 0 ≤ (c.h i).2
  fr : ∀ i, i < c.hs.length → D i = false → fdB c i = true

theorem Lft.start {c : Cr} {ns : List Wn} (h : inL ns = gl c.h (wtB c) c.hs.length) : Lft c (wtB c) ns :=
  ⟨h, fun i _ hD => by simpa [wtB] using hD, fun i hi hD => (fdB_iff hi).2 (.inl (by have : ¬ 0 ≤ (c.h i).2 := (by simpa [wtB] using hD); omega))⟩

theorem Lft.next {c : Cr} {D : Nat → Bool} {ns : List Wn} {k : Nat} {x : Wn} (h : Lft c D ns) (hx : ns[k + 1]? = some x) (hm : mayB c ((inL ns).map (fun x => x.1)) x.g = true) : ∃ i, Lft c (offB D i) (ns.eraseIdx (k + 1)) := by
  have h1 : (gl c.h D c.hs.length)[k]? = some (x.s, x.g) := by rw [← h.inl, inL_get, hx]; rfl
  obtain ⟨i, e1, hi, hD, e2, he, -⟩ := gl_out h1
  obtain ⟨q, hq, hg, hn⟩ := mayB_true.1 hm
  rw [h.inl] at hn
  have hDq : D q = false := by
    cases e : D q with
    | false => rfl
    | true => exact absurd (gl_fst_mem.2 ⟨hq, e⟩) hn
  refine ⟨i, by rw [inL_erase, h.inl, he], fun j hj hDj => ?_, leave_free h.fr hi hq (by rw [← e2]; exact hg) hDq⟩
  unfold offB at hDj
  split at hDj
  · cases hDj
  · exact h.wt j hj hDj

theorem Lft.end {c : Cr} {D : Nat → Bool} {ns : List Wn} (h : Lft c D ns) (hv : crB c = true) (hno : ∀ (j : Nat) (y : Wn), ns[j + 1]? = some y → mayB c ((inL ns).map (fun x => x.1)) y.g = false) : (inL ns).map (fun x => x.1) = stuR c := by
  have e : stuR c = stuL c := by unfold stuR; rw [if_pos hv]
  rw [e, h.inl]
  refine stuck_line (stuck_end h.wt h.fr fun i k hi hk hD hm => ?_)
  cases e : D k with
  | true => rfl
  | false =>
    have h1 := gl_mem (H := c.h) hi hD
    rw [← h.inl] at h1
    obtain ⟨q, hq⟩ := List.getElem?_of_mem h1
    rw [inL_get] at hq
    cases hn : ns[q + 1]? with
    | none => rw [hn] at hq; simp at hq
    | some y =>
      rw [hn] at hq
      simp at hq
      have h2 := hno q y hn
      have h3 : mayB c ((inL ns).map (fun x => x.1)) y.g = true := mayB_true.2 ⟨k, hk, by rw [hq.2]; exact hm, by rw [h.inl, gl_fst_mem]; rintro ⟨-, h⟩; rw [e] at h; cases h⟩
      rw [h2] at h3
      cases h3

/-- what CreditsStuck hands back -/
def StPost (c : Cr) (w : World) (e : Ending) (w' : World) : Prop := ∃ A k, e = .returned (.slice A (stuR c).length k) ∧ OwI w' w.heap.size (.slice A (stuR c).length k) (stuR c) ∧ Below w.heap.size w w'

set_option maxHeartbeats 4000000 in
theorem CreditsStuck_impl {A1 A2 : Option Addr} {n1 n2 c1 c2 : Nat} {c : Cr} (w : World) (hr : RdC w A1 n1 A2 n2 c) :
    Calls Try.prog 26 #[crV (.slice A1 n1 c1) (.slice A2 n2 c2)] w (StPost c w) := by
  obtain ⟨W, hW⟩ : ∃ W, w.alloc (.cells #[.slice A1 n1 c1, .slice A2 n2 c2] 25) = W := ⟨_, rfl⟩
  have hB := hid (show Below w.heap.size w W by rw [← hW]; exact below1 w _)
  have hC := hid (show Cs W w.heap.size 25 #[.slice A1 n1 c1, .slice A2 n2 c2] by rw [← hW]; exact Cs.new w _ _)
  have hR := hid (hr.step hB.out)
  have l2 := hid hr.len.2
  have hR0 := hid hr
  replace hW := hid hW
  clear hr
  obtain ⟨d0, d1, -, -⟩ := hC.out.two
  cases hv : crB c with
  | false =>
    have hv' := hid hv
    have E := hid (show stuR c = [] by unfold stuR; rw [hv]; rfl)
    clear hv
    go_enter Try.func26, Try.ntmps26
    go_upto_region 1 with (fail)
    rw [hW.out]
    go_wp2_with fail
    refine (CreditsValid_ias hv'.out _ hR.out).mono ?_
    rintro e w1 ⟨rfl, hb⟩
    have hB1 := hid (hB.out.trans (hb.mono hB.out.size))
    have hO := hid (own_lo (OwI.lit0 w1 rfl) hB1.out.size)
    have hBF := hid (hB1.out.alloc (o := .cells #[] 3) hB1.out.size)
    clear hb
    go_wp2
    go_ret
    exact ⟨some ⟨w1.heap.size, 0, none⟩, 0, by rw [E.out]; rfl, by rw [E.out]; exact hO.out, hBF.out⟩
  | true =>
    have hv' := hid hv
    have hn6 := hid ((crB_true.1 hv).n6)
    clear hv
    go_enter Try.func26, Try.ntmps26
    go_upto_region 1 with (fail)
    rw [hW.out]
    go_wp2_with fail
    refine (CreditsValid_ias hv'.out _ hR.out).mono ?_
    rintro e w1 ⟨rfl, hb⟩
    have hB1 := hid (hB.out.trans (hb.mono hB.out.size))
    have hC1 := hid (hC.out.step hb)
    have hR1 := hid (hR.out.step hb)
    clear hb d0 d1 hC hR
    obtain ⟨d0, d1, -, -⟩ := hC1.out.two
    go_wp2_with fail
    refine (waitLine_any _ hR1.out).mono ?_
    rintro e w2 ⟨ns, x0, rfl, hx0, hL, hin, hb2⟩
    obtain ⟨W3, hW3⟩ : ∃ W3, w2.alloc (.cells #[.pointer (some ⟨x0.b, 0, none⟩)] 62) = W3 := ⟨_, rfl⟩
    have hb3 : Below w2.heap.size w2 W3 := by rw [← hW3]; exact below1 w2 _
    have hb23 := hb2.trans (hb3.mono hb2.size)
    have hB3 := hid (hB1.out.trans (hb23.mono hB1.out.size))
    have hC3 := hid (hC1.out.step hb23)
    have hR3 := hid (hR1.out.step hb23)
    have hL3 := hid (hL.step hb3)
    have hP3 := hid (show Cs W3 w2.heap.size 62 #[.pointer (some ⟨x0.b, 0, none⟩)] by rw [← hW3]; exact Cs.new w2 _ _)
    have hlw : w.heap.size < w1.heap.size := hC1.out.lt
    have hz12 := hb2.size
    have hLf := hid (Lft.start hin)
    have hx0' := hid hx0
    have hW3' := hid hW3
    have hnl : ns.length ≤ 7 := by
      have e1 : (inL ns).length ≤ c.hs.length := by rw [hin]; exact gl_len
      rw [inL_len] at e1
      have := hn6.out
      omega
    clear hb2 hb3 hb23 hW3 hL hin hx0 d0 d1 hC1 hR1
    go_upto_region 4 with (fail)
    rw [hW3'.out]
    clear hW3'
    go_wp2
    go_loopg [] ns.length (fun gn wr => ∃ (D : Nat → Bool) (ns : List Wn) (xx : Wn), ns.length = gn ∧ gn ≤ 7 ∧ Hid (xx.b = x0.b) ∧ Hid (ns[0]? = some xx) ∧ Hid (Ln wr w1.heap.size ns) ∧ Hid (Lft c D ns) ∧ Hid (Below w.heap.size w wr) ∧ Hid (Cs wr w.heap.size 25 #[.slice A1 n1 c1, .slice A2 n2 c2]) ∧ Hid (RdC wr A1 n1 A2 n2 c) ∧ Hid (Cs wr w2.heap.size 62 #[.pointer (some ⟨x0.b, 0, none⟩)]))
    case atStart => exact ⟨_, ns, x0, rfl, hnl, hid rfl, hx0', hL3, hLf, hB3, hC3, hR3, hP3⟩
    case round =>
      clear hx0' hL3 hLf hB3 hC3 hR3 hP3 hnl
      obtain ⟨D, ns, xx, hng, hn7, hxb, hx0, hL, hLf, hBr, hCr, hRr, hPr⟩ := hrel
      have q0 : wr.cell? ⟨w2.heap.size, 0, none⟩ = some (.pointer (some ⟨x0.b, 0, none⟩)) := hPr.out.cell 0
      have hP2 := hid (show Cs wr w2.heap.size 62 #[.pointer (some ⟨xx.b, 0, none⟩)] by rw [hxb.out]; exact hPr.out)
      have hxb' := hxb.out
      go_wp2_with fail
      rw [← hxb']
      refine (take_go _ hRr.out hL.out hx0.out (by omega) hCr.out hP2.out).mono ?_
      have hkw := hid (fun (w' : World) (hk : Kp (LnS ns) wr w') => And.intro (hBr.out.trans (hk.base (B := w.heap.size) hBr.out.size (fun b hb => by obtain ⟨q, z, hz, e⟩ := hb; rw [e]; have := hL.out.lo q z hz; omega))) (And.intro (hCr.out.kp hk (fun hb => by obtain ⟨q, z, hz, e⟩ := hb; have := hL.out.lo q z hz; omega)) (And.intro (hR0.out.step (hBr.out.trans (hk.base (B := w.heap.size) hBr.out.size (fun b hb => by obtain ⟨q, z, hz, e⟩ := hb; rw [e]; have := hL.out.lo q z hz; omega)))) (hPr.out.kp hk (fun hb => hL.out.apart hPr.out (by decide) hb)))))
      rintro e wa (⟨k, y, y1, y2, rfl, y4, y6⟩ | ⟨y1, rfl, y4, y6⟩)
      · obtain ⟨i, hLn⟩ := hLf.out.next y1 y2
        have hLn := hid hLn
        obtain ⟨r1, r2, r3, r4⟩ := hkw.out _ y6
        have hlen : (ns.eraseIdx (k + 1)).length = gk - 1 ∧ 0 < gk := by
          have := (List.getElem?_eq_some_iff.1 y1).1
          rw [List.length_eraseIdx, if_pos this]
          omega
        have H := hid (And.intro (show (ns.eraseIdx (k + 1))[0]? = some xx by rw [erase_low (by omega)]; exact hx0.out) (And.intro y4 (And.intro r1 (And.intro r2 (And.intro r3 r4)))))
        clear y1 y2 y4 y6 r1 r2 r3 r4 hkw q0
        go_wp2
        go_roundg (gk - 1)
        case rel => exact ⟨_, _, xx, hlen.1, by omega, hxb, hid H.out.1, hid H.out.2.1, hLn, hid H.out.2.2.1, hid H.out.2.2.2.1, hid H.out.2.2.2.2.1, hid H.out.2.2.2.2.2⟩
        case measure => omega
      · have hend := hid (hLf.out.end hv'.out y1)
        obtain ⟨r1, r2, r3, r4⟩ := hkw.out _ y6
        have r1 := hid r1
        have hL4 := hid y4
        have s0 : wa.cell? ⟨w2.heap.size, 0, none⟩ = some (.pointer (some ⟨xx.b, 0, none⟩)) := by rw [hxb']; exact r4.cell 0
        have hx0' := hid hx0.out
        clear y1 y4 y6 r2 r3 r4 hkw q0
        go_wp2_with fail
        rw [← hxb']
        refine (senders_any _ hL4.out hx0'.out (by omega)).mono ?_
        rw [hend.out]
        rintro e wb ⟨v, rfl, ho, hb⟩
        have hO := hid (own_lo ho r1.out.size)
        have hBF := hid (r1.out.trans (hb.mono r1.out.size))
        obtain ⟨A, k, rfl, -⟩ := ho.form
        clear hb ho
        go_wp2
        go_ret
        exact ⟨A, k, rfl, hO.out, hBF.out⟩
end Go.Proofs.Ytgeihcbiahnnaaa
