/-
  The exact laws' helpers over credits, continued: toCredits, eqCredits; live credits. No condition but lengths below 2^40.
-/
import Derived.Test.YtgeihcbiahnnaaaCxB
namespace Go.Proofs.Ytgeihcbiahnnaaa
open Go.RowKit
set_option linter.unusedVariables false
set_option linter.unusedSimpArgs false

/-- what a call that makes credits hands back, its slices laid open -/
def CrPostX (c : Cr) (w : World) (e : Ending) (w' : World) : Prop := ∃ A1 c1 A2 c2 vals, e = .returned (crV (.slice A1 c.fr.length c1) (.slice A2 c.hs.length c2)) ∧ OwC w' w.heap.size (.slice A1 c.fr.length c1) (.slice A2 c.hs.length c2) vals c ∧ Below w.heap.size w w'

set_option maxHeartbeats 4000000 in
theorem toCredits_any {A1 A2 : Option Addr} {n1 c1 n2 c2 : Nat} {c : Cr} (w : World) (hr : RdCX w A1 n1 A2 n2 c) (hs : Sm c) :
    Calls Try.prog 19 #[crV (.slice A1 n1 c1) (.slice A2 n2 c2)] w (CrPostX c w) := by
  obtain ⟨W, hW⟩ : ∃ W, (((w.alloc (.cells #[.slice A1 n1 c1, .slice A2 n2 c2] 36)).alloc (.cells #[.slice none 0 0, .slice none 0 0] 25)).alloc (.cells #[.slice none 0 0, .slice none 0 0] 25)) = W := ⟨_, rfl⟩
  have B := hid (show Below w.heap.size w W by rw [← hW]; exact below3 w _ _ _)
  have C0 := hid (show Cs W w.heap.size 36 #[.slice A1 n1 c1, .slice A2 n2 c2] by rw [← hW]; exact ((Cs.new w _ _).alloc _).alloc _)
  have C1 := hid (show Cs W (w.heap.size + 1) 25 #[.slice none 0 0, .slice none 0 0] by rw [← hW]; exact (Cs.new' _ _ _ (by simp)).alloc _)
  have C2 := hid (show Cs W (w.heap.size + 1 + 1) 25 #[.slice none 0 0, .slice none 0 0] by rw [← hW]; exact Cs.new' _ _ _ (by simp))
  have hz : w.heap.size + 1 + 1 < W.heap.size := C2.out.lt
  have X := hid (hr.below B.out)
  have l1 : n1 < 1099511 := by have := hr.f.len; have := hs.f; omega
  have l2 : n2 < 1099511 := by have := hr.h.1; have := hs.h; omega
  have sm := hid (show ∀ x ∈ c.hs, x.1.length < 1099511627776 from fun x hx => by have := hs.s x hx; omega)
  have hr0 := hid hr
  replace hW := hid hW
  clear hr hs
  go_enter Try.func19, Try.ntmps19
  go_upto_region 2 with (fail)
  rw [hW.out]
  obtain ⟨d0, d1, -, -⟩ := C0.out.two
  go_wp2_with fail
  refine (toIntS_any _ X.out.f (by omega)).mono ?_
  rintro e w1 ⟨v1, rfl, o1, hb1⟩
  obtain ⟨A, cc, rfl, -⟩ := o1.rd (Nat.le_refl _)
  have D0 := hid (C0.out.step hb1)
  have D1 := hid (C1.out.step hb1)
  have D2 := hid (C2.out.step hb1)
  have X1 := hid (X.out.below hb1)
  have O1 := hid o1.1
  have B1 := hid (B.out.trans (hb1.mono (by omega)))
  have hz1 : W.heap.size ≤ w1.heap.size := hb1.size
  clear hb1 C0 C1 C2 B X d0 d1 o1
  obtain ⟨x0, x1, x2, x3⟩ := D2.out.two
  go_upto_region 3 with (fail)
  obtain ⟨W1, hW1⟩ : ∃ W, w1.setCell ⟨w.heap.size + 1 + 1, 0, none⟩ (.slice A c.fr.length cc) = W := ⟨_, rfl⟩
  rw [hW1]
  have hk1 : Below (w.heap.size + 1 + 1) w1 W1 := by rw [← hW1]; exact (Below.refl (w.heap.size + 1 + 1) w1).setCell (p := ⟨w.heap.size + 1 + 1, 0, none⟩) (Nat.le_refl _) _
  have E0 := hid (D0.out.below hk1 (by omega))
  have E1 := hid (D1.out.below hk1 (by omega))
  have E2 := hid (show Cs W1 (w.heap.size + 1 + 1) 25 #[.slice A c.fr.length cc, .slice none 0 0] by rw [← hW1]; exact D2.out.set 0 _)
  have B2 := hid (show Below w.heap.size w W1 by rw [← hW1]; exact B1.out.setCell (by simp; omega) _)
  have P1 := hid (show OwI W1 W.heap.size (.slice A c.fr.length cc) c.fr by rw [← hW1]; exact own_of_block O1.out fun g hg => heap_setCell_other w1 ⟨w.heap.size + 1 + 1, 0, none⟩ g _ (fun e => by have := (O1.out.lt g hg).1; simp only at e; omega))
  have hsz1 : w1.heap.size ≤ W1.heap.size := hk1.size
  have X2 := hid (hr0.out.below B2.out)
  clear hW1 hk1 D0 D1 D2 O1 B1 X1 x0 x1 x2 x3
  obtain ⟨d0, d1, -, -⟩ := E0.out.two
  go_wp2_with fail
  refine (toHoldS_any _ X2.out.h l2 sm.out).mono ?_
  rintro e w2 ⟨H, vals, rfl, o2, hb2⟩
  obtain ⟨A', cc', rfl⟩ := own_form o2.h
  have hz2 : W1.heap.size ≤ w2.heap.size := hb2.size
  have F1 := hid (E1.out.step hb2)
  have F2 := hid (E2.out.step hb2)
  have Q1 := hid (own_of_block P1.out fun g hg => hb2.block g (P1.out.lt g hg).2)
  have hO2 := hid ((o2.more (show W.heap.size ≤ W1.heap.size by omega)).withF Q1.out (fun g hg hk => by have h1 := (P1.out.lt g hg).2; have h2 := (o2.lt hk).1; omega))
  have B3 := hid (B2.out.trans (hb2.mono (by omega)))
  clear hb2 o2 E0 E1 E2 P1 B2 Q1 X2 d0 d1
  obtain ⟨x0, x1, x2, x3⟩ := F2.out.two
  go_upto_region 4 with (fail)
  obtain ⟨W2, hW2⟩ : ∃ W, w2.setCell ⟨w.heap.size + 1 + 1, 1, none⟩ (.slice A' c.hs.length cc') = W := ⟨_, rfl⟩
  rw [hW2]
  have G1 := hid (show Cs W2 (w.heap.size + 1) 25 #[.slice none 0 0, .slice none 0 0] by rw [← hW2]; exact F1.out.far (by simp) _)
  have G2 := hid (show Cs W2 (w.heap.size + 1 + 1) 25 #[.slice A c.fr.length cc, .slice A' c.hs.length cc'] by rw [← hW2]; exact F2.out.set 1 _)
  have hO3 := hid (show OwC W2 W.heap.size (.slice A c.fr.length cc) (.slice A' c.hs.length cc') vals c by rw [← hW2]; exact hO2.out.one (p := ⟨w.heap.size + 1 + 1, 1, none⟩) (fun hk => by have := (hO2.out.lt hk).1; simp only at this; omega) _)
  have B4 := hid (show Below w.heap.size w W2 by rw [← hW2]; exact B3.out.setCell (by simp; omega) _)
  clear hW2 F1 F2 hO2 B3 x0 x1 x2 x3
  obtain ⟨x0, x1, -, -⟩ := G2.out.two
  obtain ⟨z0, z1, z2, z3⟩ := G1.out.two
  have hY := hid ((G1.out.set 0 (.slice A c.fr.length cc)).set 1 (.slice A' c.hs.length cc')).two
  have hO := hid (((hO3.out.one (p := ⟨w.heap.size + 1, 0, none⟩) (fun hk => by have := (hO3.out.lt hk).1; simp only at this; omega) (.slice A c.fr.length cc)).one (p := ⟨w.heap.size + 1, 1, none⟩) (fun hk => by have := (hO3.out.lt hk).1; simp only at this; omega) (.slice A' c.hs.length cc')).more (show w.heap.size ≤ W.heap.size by omega))
  have hBF := hid ((B4.out.setCell (p := ⟨w.heap.size + 1, 0, none⟩) (by simp) (.slice A c.fr.length cc)).setCell (p := ⟨w.heap.size + 1, 1, none⟩) (by simp) (.slice A' c.hs.length cc'))
  clear hO3 B4 G1 G2
  go_wp2
  obtain ⟨r0, r1, -, -⟩ := hY.out
  refine bodyPost_ret (v := crV (.slice A c.fr.length cc) (.slice A' c.hs.length cc')) (by simp [results, Try.results19, go_sem, r0, r1]) rfl ?_
  exact ⟨A, cc, A', cc', vals, rfl, hO.out, hBF.out⟩

set_option maxHeartbeats 1000000 in
theorem eqHold_same {m ci di : Nat} {Ai Bi : Option Addr} {zs : List Int} (x : Int) (w : World) (h1 : RdI w w.heap.size Ai m zs) (h2 : RdI w w.heap.size Bi m zs) (hm : m < 1099511627776) :
    Calls Try.prog 65 #[hoV (.slice Ai m ci) x, hoV (.slice Bi m di) x] w fun e w' => e = .returned (.bool true) ∧ Below w.heap.size w w' := by
  obtain ⟨W, hW⟩ : ∃ W, ((w.alloc (.cells #[.slice Ai m ci, .int .i64 x] 49)).alloc (.cells #[.slice Bi m di, .int .i64 x] 49)) = W := ⟨_, rfl⟩
  have B := hid (show Below w.heap.size w W by rw [← hW]; exact below2 w _ _)
  have C0 := hid (show Cs W w.heap.size 49 #[.slice Ai m ci, .int .i64 x] by rw [← hW]; exact (Cs.new w _ _).alloc _)
  have C1 := hid (show Cs W (w.heap.size + 1) 49 #[.slice Bi m di, .int .i64 x] by rw [← hW]; exact Cs.new' _ _ _ (by simp))
  have r1 := hid ((Reads.below h1 B.out).more B.out.size)
  have r2 := hid ((Reads.below h2 B.out).more B.out.size)
  replace hW := hid hW
  clear h1 h2
  go_enter Try.func65, Try.ntmps65
  go_upto_region 1 with (fail)
  rw [hW.out]
  obtain ⟨a0, a1, -, -⟩ := C0.out.two
  obtain ⟨b0, b1, -, -⟩ := C1.out.two
  go_wp2_with fail
  refine (eqIntS_any _ r1.out r2.out hm hm).mono ?_
  rw [sameB_self]
  rintro e w1 ⟨rfl, hq⟩
  have hb1 := hq.below W.heap.size
  have D0 := hid (C0.out.step hb1)
  have D1 := hid (C1.out.step hb1)
  have hB1 := hid (B.out.trans (hb1.mono B.out.size))
  clear hq hb1 a0 a1 b0 b1 C0 C1 r1 r2 B
  obtain ⟨a0, a1, -, -⟩ := D0.out.two
  obtain ⟨b0, b1, -, -⟩ := D1.out.two
  go_wp2
  go_ret
  exact ⟨rfl, hB1.out⟩

set_option maxHeartbeats 4000000 in
theorem eqHoldS_same {A1 A2 B1 B2 : Option Addr} {n1 n2 c2 d2 : Nat} {c : Cr} (w : World) (h : RdC w A1 n1 A2 n2 c) (k : RdC w B1 n1 B2 n2 c) :
    Calls Try.prog 34 #[.slice A2 n2 c2, .slice B2 n2 d2] w fun e w' => e = .returned (.bool true) ∧ Below w.heap.size w w' := by
  have h' := hid h
  have k' := hid k
  have b2 := h.b2
  clear h k
  go_enter Try.func34, Try.ntmps34
  go_wp2
  go_loopw [5] (fun i wr => ∃ j : Nat, j ≤ n2 ∧ i = .int .i64 j ∧ Hid (Below w.heap.size w wr)) (fun i _ => n2 - (intOf i).toNat)
  case atStart => exact ⟨0, by omega, rfl, hid (Below.refl _ _)⟩
  case round =>
    obtain ⟨j, hj, rfl, hB⟩ := hrel
    by_cases hlt : j < n2
    · obtain ⟨b, off, Ai, m, ci, rfl, hb, hm, e0, e1, hri, hmc, hci, hml⟩ := (h'.out.step hB.out).at_ hlt
      obtain ⟨b', off', Bi, m', di, rfl, hb', hm', f0, f1, hri', hmc', hci', hml'⟩ := (k'.out.step hB.out).at_ hlt
      have em : m' = m := by rw [← hm.out, ← hm'.out]
      subst em
      obtain ⟨x, hx⟩ : ∃ x, (c.h j).2 = x := ⟨_, rfl⟩
      obtain ⟨zs, hzs⟩ : ∃ zs, (c.h j).1 = zs := ⟨_, rfl⟩
      rw [hx] at e1 f1
      rw [hzs] at hm hri hri'
      have E0 : ∀ y : BW wr, y.wd.cell? ⟨b, off + j * 2, none⟩ = some (.slice Ai m' ci) := fun y => y.cell e0
      have E1 : ∀ y : BW wr, y.wd.cell? ⟨b, off + j * 2 + 1, none⟩ = some (.int .i64 x) := fun y => y.cell e1
      have F0 : ∀ y : BW wr, y.wd.cell? ⟨b', off' + j * 2, none⟩ = some (.slice Bi m' di) := fun y => y.cell f0
      have F1 : ∀ y : BW wr, y.wd.cell? ⟨b', off' + j * 2 + 1, none⟩ = some (.int .i64 x) := fun y => y.cell f1
      have RA := hid (fun (y : BW wr) => show RdI y.wd y.wd.heap.size Ai m' zs from (Reads.below hri.out y.below).more y.below.size)
      have RB := hid (fun (y : BW wr) => show RdI y.wd y.wd.heap.size Bi m' zs from (Reads.below hri'.out y.below).more y.below.size)
      have i0 : (0 : Int) ≤ (j : Int) := by omega
      have i1 : (j : Int) < (n2 : Int) := by omega
      clear e0 e1 f0 f1 hx hzs hri hri' hm hm'
      go_wp2_with fail
      refine wp_region_below (by kernel_rfl) (by kernel_rfl) ?_
      repeat (go_big_quiet_step ((go_at_call 65; exact BW.call _ (eqHold_same _ _ (RA.out _) (RB.out _) hml))))
      refine wpQuiet_nil ?_
      intro w1 hb1
      have B1 := hid (hB.out.trans (hb1.mono hB.out.size))
      clear hb1 E0 E1 F0 F1
      go_wp2
      go_roundw
      case rel => exact ⟨j + 1, by omega, by go_num, B1⟩
      case measure => simp [intOf]; omega
    · have hkn : ¬ ((j : Int) < (n2 : Int)) := by omega
      go_wp2
      go_ret
      exact ⟨rfl, hB.out⟩

set_option maxHeartbeats 1000000 in
theorem eqCredits_same {A1 A2 B1 B2 : Option Addr} {n1 n2 c1 c2 d1 d2 : Nat} {c : Cr} (w : World) (h : RdC w A1 n1 A2 n2 c) (k : RdC w B1 n1 B2 n2 c) :
    Calls Try.prog 12 #[crV (.slice A1 n1 c1) (.slice A2 n2 c2), crV (.slice B1 n1 d1) (.slice B2 n2 d2)] w fun e w' => e = .returned (.bool true) ∧ Below w.heap.size w w' := by
  obtain ⟨W, hW⟩ : ∃ W, ((w.alloc (.cells #[.slice A1 n1 c1, .slice A2 n2 c2] 25)).alloc (.cells #[.slice B1 n1 d1, .slice B2 n2 d2] 25)) = W := ⟨_, rfl⟩
  have B := hid (show Below w.heap.size w W by rw [← hW]; exact below2 w _ _)
  have C0 := hid (show Cs W w.heap.size 25 #[.slice A1 n1 c1, .slice A2 n2 c2] by rw [← hW]; exact (Cs.new w _ _).alloc _)
  have C1 := hid (show Cs W (w.heap.size + 1) 25 #[.slice B1 n1 d1, .slice B2 n2 d2] by rw [← hW]; exact Cs.new' _ _ _ (by simp))
  have r1 := hid (h.step B.out)
  have r2 := hid (k.step B.out)
  have b1 := h.b1
  replace hW := hid hW
  clear h k
  go_enter Try.func12, Try.ntmps12
  go_upto_region 1 with (fail)
  rw [hW.out]
  obtain ⟨a0, a1, -, -⟩ := C0.out.two
  obtain ⟨b0, b1', -, -⟩ := C1.out.two
  go_wp2_with fail
  refine (eqIntS_any _ r1.out.f r2.out.f b1 b1).mono ?_
  rw [sameB_self]
  rintro e w1 ⟨rfl, hq⟩
  have hb1 := hq.below W.heap.size
  have D0 := hid (C0.out.step hb1)
  have D1 := hid (C1.out.step hb1)
  have s1 := hid (r1.out.step hb1)
  have s2 := hid (r2.out.step hb1)
  have hB1 := hid (B.out.trans (hb1.mono B.out.size))
  have hz1 := hB1.out.size
  clear hq hb1 a0 a1 b0 b1' C0 C1 r1 r2 B
  obtain ⟨a0, a1, -, -⟩ := D0.out.two
  obtain ⟨b0, b1', -, -⟩ := D1.out.two
  go_wp2_with fail
  refine (eqHoldS_same _ s1.out s2.out).mono ?_
  rintro e w2 ⟨rfl, hb2⟩
  have hB2 := hid (hB1.out.trans (hb2.mono hz1))
  clear hb2 a0 a1 b0 b1'
  go_wp2
  go_ret
  exact ⟨rfl, hB2.out⟩

/-- credits that are live: their blocks lie from lo to below hi -/
structure Lc (w : World) (lo hi : Nat) (A1 : Option Addr) (n1 c1 : Nat) (A2 : Option Addr) (n2 c2 : Nat) (vals : List Value) (c : Cr) : Prop where
  ow : OwC w lo (.slice A1 n1 c1) (.slice A2 n2 c2) vals c
  l1 : c.fr.length = n1
  l2 : c.hs.length = n2
  hb : ∀ b, bkC (.slice A1 n1 c1) (.slice A2 n2 c2) vals b → b < hi
  hi : hi ≤ w.heap.size
section
variable {w w' : World} {S : Nat → Prop} {lo hi n1 n2 c1 c2 : Nat} {A1 A2 : Option Addr} {vals : List Value} {c : Cr}

theorem Lc.of (h : OwC w lo (.slice A1 c.fr.length c1) (.slice A2 c.hs.length c2) vals c) : Lc w lo w.heap.size A1 c.fr.length c1 A2 c.hs.length c2 vals c := ⟨h, rfl, rfl, fun b hb => (h.lt hb).2, Nat.le_refl _⟩

theorem Lc.step (h : Lc w lo hi A1 n1 c1 A2 n2 c2 vals c) (hb : Below w.heap.size w w') : Lc w' lo hi A1 n1 c1 A2 n2 c2 vals c := ⟨h.ow.step hb, h.l1, h.l2, h.hb, Nat.le_trans h.hi hb.size⟩

theorem Lc.kp (h : Lc w lo hi A1 n1 c1 A2 n2 c2 vals c) (hk : Kp S w w') (hS : ∀ b, lo ≤ b → b < hi → ¬ S b) : Lc w' lo hi A1 n1 c1 A2 n2 c2 vals c :=
  ⟨h.ow.of_blocks hk.size fun g hg => hk.block g (h.ow.lt hg).2 (hS g (h.ow.lt hg).1 (h.hb g hg)), h.l1, h.l2, h.hb, Nat.le_trans h.hi hk.size⟩

theorem Lc.rd (h : Lc w lo hi A1 n1 c1 A2 n2 c2 vals c) (hs : Sm c) : RdC w A1 n1 A2 n2 c := by
  obtain ⟨A1', c1', A2', c2', e1, e2, hr, -⟩ := h.ow.rd (by have := hs.f; omega) (by have := hs.h; omega) (fun x hx => by have := hs.s x hx; omega)
  injection e1 with e1 _ _
  injection e2 with e2 _ _
  subst e1; subst e2
  rw [h.l1, h.l2] at hr
  exact hr
end
end Go.Proofs.Ytgeihcbiahnnaaa
