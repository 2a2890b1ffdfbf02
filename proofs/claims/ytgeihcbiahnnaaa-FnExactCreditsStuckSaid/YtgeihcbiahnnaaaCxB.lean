/-
  The exact laws' helpers over credits, continued: toCredits, eqCredits; live credits. No condition but lengths below 2^40.
-/
import Derived.Test.YtgeihcbiahnnaaaCxA
namespace Go.Proofs.Ytgeihcbiahnnaaa
open Go.RowKit
set_option linter.unusedVariables false
set_option linter.unusedSimpArgs false

set_option maxHeartbeats 2000000 in
theorem toHold_any {m ci : Nat} {Ai : Option Addr} {zs : List Int} (x : Int) (w : World) (hr : RdI w w.heap.size Ai m zs) (hm : m < 1099511627776) :
    Calls Try.prog 67 #[hoV (.slice Ai m ci) x] w fun e w' => ∃ A c, e = .returned (hoV (.slice A zs.length c) x) ∧ OwI w' w.heap.size (.slice A zs.length c) zs ∧ Below w.heap.size w w' := by
  obtain ⟨W, hW⟩ : ∃ W, (((w.alloc (.cells #[.slice Ai m ci, .int .i64 x] 75)).alloc (.cells #[.slice none 0 0, .int .i64 0] 49)).alloc (.cells #[.slice none 0 0, .int .i64 0] 49)) = W := ⟨_, rfl⟩
  have B := hid (show Below w.heap.size w W by rw [← hW]; exact below3 w _ _ _)
  have C0 := hid (show Cs W w.heap.size 75 #[.slice Ai m ci, .int .i64 x] by rw [← hW]; exact ((Cs.new w _ _).alloc _).alloc _)
  have C1 := hid (show Cs W (w.heap.size + 1) 49 #[.slice none 0 0, .int .i64 0] by rw [← hW]; exact (Cs.new' _ _ _ (by simp)).alloc _)
  have C2 := hid (show Cs W (w.heap.size + 1 + 1) 49 #[.slice none 0 0, .int .i64 0] by rw [← hW]; exact Cs.new' _ _ _ (by simp))
  have hz : w.heap.size + 1 + 1 < W.heap.size := C2.out.lt
  have X := hid ((Reads.below hr B.out).more B.out.size)
  replace hW := hid hW
  clear hr
  go_enter Try.func67, Try.ntmps67
  go_upto_region 2 with (fail)
  rw [hW.out]
  obtain ⟨d0, d1, -, -⟩ := C0.out.two
  go_wp2_with fail
  refine (toIntS_any _ X.out hm).mono ?_
  rintro e w1 ⟨v1, rfl, o1, hb1⟩
  obtain ⟨A, c, rfl, -⟩ := o1.rd (Nat.le_refl _)
  have D0 := hid (C0.out.step hb1)
  have D1 := hid (C1.out.step hb1)
  have D2 := hid (C2.out.step hb1)
  have O1 := hid o1.1
  have B1 := hid (B.out.trans (hb1.mono (by omega)))
  have hz1 : W.heap.size ≤ w1.heap.size := hb1.size
  clear hb1 C0 C1 C2 B X d0 d1 o1
  obtain ⟨x0, x1, x2, x3⟩ := D2.out.two
  go_upto_region 3 with (fail)
  obtain ⟨W1, hW1⟩ : ∃ W, w1.setCell ⟨w.heap.size + 1 + 1, 0, none⟩ (.slice A zs.length c) = W := ⟨_, rfl⟩
  rw [hW1]
  have E0 := hid (show Cs W1 w.heap.size 75 #[.slice Ai m ci, .int .i64 x] by rw [← hW1]; exact D0.out.far (by simp; omega) _)
  have E1 := hid (show Cs W1 (w.heap.size + 1) 49 #[.slice none 0 0, .int .i64 0] by rw [← hW1]; exact D1.out.far (by simp) _)
  have E2 := hid (show Cs W1 (w.heap.size + 1 + 1) 49 #[.slice A zs.length c, .int .i64 0] by rw [← hW1]; exact D2.out.set 0 _)
  have hsz1 : W1.heap.size = w1.heap.size := by rw [← hW1]; simp [World.setCell]
  have P1 := hid (show OwI W1 W.heap.size (.slice A zs.length c) zs by rw [← hW1]; exact own_of_block O1.out fun g hg => heap_setCell_other w1 ⟨w.heap.size + 1 + 1, 0, none⟩ g _ (fun e => by have := (O1.out.lt g hg).1; simp only at e; omega))
  have B2 := hid (show Below w.heap.size w W1 by rw [← hW1]; exact B1.out.setCell (by simp; omega) _)
  clear hW1 D0 D1 D2 O1 B1 x0 x1 x2 x3
  obtain ⟨d0, d1, -, -⟩ := E0.out.two
  obtain ⟨x0, x1, x2, x3⟩ := E2.out.two
  go_upto_region 4 with (fail)
  obtain ⟨W2, hW2⟩ : ∃ W, W1.setCell ⟨w.heap.size + 1 + 1, 1, none⟩ (.int .i64 x) = W := ⟨_, rfl⟩
  rw [hW2]
  have F1 := hid (show Cs W2 (w.heap.size + 1) 49 #[.slice none 0 0, .int .i64 0] by rw [← hW2]; exact E1.out.far (by simp) _)
  have F2 := hid (show Cs W2 (w.heap.size + 1 + 1) 49 #[.slice A zs.length c, .int .i64 x] by rw [← hW2]; exact E2.out.set 1 _)
  have Q1 := hid (show OwI W2 W.heap.size (.slice A zs.length c) zs by rw [← hW2]; exact own_of_block P1.out fun g hg => heap_setCell_other W1 ⟨w.heap.size + 1 + 1, 1, none⟩ g _ (fun e => by have := (P1.out.lt g hg).1; simp only at e; omega))
  have B3 := hid (show Below w.heap.size w W2 by rw [← hW2]; exact B2.out.setCell (by simp; omega) _)
  clear hW2 E0 E1 E2 P1 B2 x0 x1 x2 x3 d0 d1
  obtain ⟨x0, x1, -, -⟩ := F2.out.two
  obtain ⟨z0, z1, z2, z3⟩ := F1.out.two
  have hY := hid ((F1.out.set 0 (.slice A zs.length c)).set 1 (.int .i64 x)).two
  have hO := hid (own_lo (own_of_block (w' := (W2.setCell ⟨w.heap.size + 1, 0, none⟩ (.slice A zs.length c)).setCell ⟨w.heap.size + 1, 1, none⟩ (.int .i64 x)) Q1.out fun g hg => (heap_setCell_other _ ⟨w.heap.size + 1, 1, none⟩ g _ (fun e => by have := (Q1.out.lt g hg).1; simp only at e; omega)).trans (heap_setCell_other W2 ⟨w.heap.size + 1, 0, none⟩ g _ (fun e => by have := (Q1.out.lt g hg).1; simp only at e; omega))) (show w.heap.size ≤ W.heap.size by omega))
  have hBF := hid ((B3.out.setCell (p := ⟨w.heap.size + 1, 0, none⟩) (by simp) (.slice A zs.length c)).setCell (p := ⟨w.heap.size + 1, 1, none⟩) (by simp) (.int .i64 x))
  clear Q1 B3 F1 F2
  go_wp2
  obtain ⟨r0, r1, -, -⟩ := hY.out
  refine bodyPost_ret (v := hoV (.slice A zs.length c) x) (by simp [results, Try.results67, go_sem, r0, r1]) rfl ?_
  exact ⟨A, c, rfl, hO.out, hBF.out⟩

theorem madeHo (n : Nat) : (madeCells #[.slice none 0 0, .int .i64 0] (n * 2)).toList = hcs (List.replicate n (.slice none 0 0)) (List.replicate n ([], 0)) := by
  apply List.ext_getElem?
  intro i
  by_cases hi : i < n * 2
  · have hq : i / 2 < n := by omega
    obtain ⟨g0, g1⟩ := hcs_get (vs := List.replicate n (.slice none 0 0)) (hs := List.replicate n (([], 0) : Ho)) (i := i / 2) (v := .slice none 0 0) (h := ([], 0)) (by simp [hq]) (by simp [hq])
    have hg : (madeCells #[.slice none 0 0, .int .i64 0] (n * 2)).toList[i]? = some ((#[.slice none 0 0, .int .i64 0] : Array Value)[i % 2]!) := by simp [madeCells, hi]
    rw [hg]
    have : i % 2 = 0 ∨ i % 2 = 1 := by omega
    rcases this with h | h
    · have g2 := g0
      rw [show i / 2 * 2 = i by omega] at g2
      rw [h, g2]; rfl
    · have g2 := g1
      rw [show i / 2 * 2 + 1 = i by omega] at g2
      rw [h, g2]; rfl
  · rw [List.getElem?_eq_none (by simp [madeCells]; omega), List.getElem?_eq_none (by rw [hcs_len (by simp)]; simp; omega)]

/-- senders of the call's own, all without memory yet -/
theorem OwC.made {w : World} {lo b n : Nat} (h : w.ownsRow lo 49 2 (.slice (some ⟨b, 0, none⟩) n n) n (madeCells #[.slice none 0 0, .int .i64 0] (n * 2)).toList) :
    OwC w lo (.slice none 0 0) (.slice (some ⟨b, 0, none⟩) n n) (List.replicate n (.slice none 0 0)) ⟨[], List.replicate n ([], 0)⟩ where
  f := World.ownsRow_nil w _ _ _
  h := by
    rw [madeHo] at h
    show World.ownsRow _ _ _ _ _ (List.replicate n ([], 0)).length _
    rw [List.length_replicate]
    exact h
  len := by simp
  i := fun i x hx => by
    have hi := (List.getElem?_eq_some_iff.1 hx).1
    simp at hi
    refine ⟨.slice none 0 0, by simp [hi], ?_⟩
    simp [hi] at hx
    subst hx
    exact World.ownsRow_nil w _ _ _
  apF := fun v hv g hg => by
    rw [List.eq_of_mem_replicate hv] at hg
    cases hg
  ap := fun i j u v _ hu hv g hg => by
    rw [List.eq_of_mem_replicate (List.mem_of_getElem? hu)] at hg
    cases hg
  top := fun g hg => by
    rcases hg with hg | hg | ⟨v, hv, hg⟩
    · cases hg
    · exact (h.lt g hg).2
    · rw [List.eq_of_mem_replicate hv] at hg
      cases hg
/-- the free numbers laid beside the senders -/
theorem OwC.withF {w : World} {lo : Nat} {F H : Value} {vals : List Value} {fr : List Int} {hs : List Ho} (h : OwC w lo (.slice none 0 0) H vals ⟨[], hs⟩) (hf : OwI w lo F fr) (hne : ∀ g, F.ownBlock = some g → ¬ bkC (.slice none 0 0) H vals g) : OwC w lo F H vals ⟨fr, hs⟩ where
  f := hf
  h := h.h
  len := h.len
  i := h.i
  apF := fun v hv g hg e => hne g e (.inr (.inr ⟨v, hv, hg⟩))
  ap := h.ap
  top := fun g hg => by
    rcases hg with hg | hg | hg
    · exact (hf.lt g hg).2
    · exact h.top g (.inr (.inl hg))
    · exact h.top g (.inr (.inr hg))

theorem OwC.hole' {w : World} {lo b n cp s : Nat} {F : Value} {vals : List Value} {c : Cr} (h : OwC w lo F (.slice (some ⟨b, 0, none⟩) n cp) vals c) (hs : s < c.hs.length) :
    ∃ A m ci, w.cell? ⟨b, s * 2, none⟩ = some (.slice A m ci) ∧ w.cell? ⟨b, s * 2 + 1, none⟩ = some (.int .i64 (c.h s).2) ∧ w.frozen? ⟨b, s * 2, none⟩ = false ∧ w.frozen? ⟨b, s * 2 + 1, none⟩ = false := by
  obtain ⟨k0, k1, -⟩ := h.setW hs 0
  obtain ⟨v, h1, h2⟩ := h.i s _ (at_h hs)
  obtain ⟨A, ci, e, -⟩ := h2.form
  have hl : c.hs.length = n := by
    rcases h.h.2 with ⟨e, _⟩ | ⟨g, cap, cur, e, _⟩
    · cases e
    · injection e with _ e2; exact e2.symm
  have hoo : w.ownsRow lo 49 2 (.slice (some ⟨b, 0, none⟩) n cp) n (hcs vals c.hs) := by have := h.h; rw [hl] at this; exact this
  refine ⟨A, (c.h s).1.length, ci, ?_, k0, k1 _, k1 _⟩
  rw [hoo.cellAt _ (by omega), ← e]
  exact (hcs_get h1 (at_h hs)).1
/-- what a call that makes senders hands back -/
def HsPost (hs : List Ho) (w : World) (e : Ending) (w' : World) : Prop := ∃ H vals, e = .returned H ∧ OwC w' w.heap.size (.slice none 0 0) H vals ⟨[], hs⟩ ∧ Below w.heap.size w w'

theorem info_ho2 : (Try.prog.info? 49).map (fun i => (i.zero, i.size, i.bytes)) = some (some (.agg #[.slice none 0 0, .int .i64 0]), 2, 32) := by kernel_rfl

theorem pref_set {ys hs : List Ho} {k : Nat} {x : Ho} (hl : ys.length = hs.length) (hx : hs[k]? = some x) (hall : ∀ j, j < k → ys[j]? = hs[j]?) : ∀ j, j < k + 1 → (ys.set k x)[j]? = hs[j]? := fun j hj => by
  have hk := (List.getElem?_eq_some_iff.1 hx).1
  by_cases e : j = k
  · subst e
    rw [List.getElem?_set_self (by omega)]; exact hx.symm
  · rw [List.getElem?_set_ne (fun h => e h.symm)]; exact hall j (by omega)

set_option maxHeartbeats 4000000 in
theorem toHoldS_any {n c : Nat} {A : Option Addr} {hs : List Ho} (w : World) (hr : RdHX w A n hs) (hn : n < 1099511) (hm : ∀ x ∈ hs, x.1.length < 1099511627776) :
    Calls Try.prog 41 #[.slice A n c] w (HsPost hs w) := by
  obtain ⟨i0, hi, hz0, hz1, hz2⟩ := info_parts info_ho2
  have hlen := hid hr.1
  have h' := hid hr
  have hm' := hid hm
  clear hr hm
  go_enter Try.func41, Try.ntmps41
  go_wp2_with (refine wpList_make_full (P := Try.prog) _ rfl _ _ 23 rfl w.heap.size 49 i0 (.agg #[.slice none 0 0, .int .i64 0]) 2 Try.underlying23 hi hz0 hz1 .i64 .i64 _ _ n rfl rfl rfl rfl (by rw [hz2]; omega) (by unfold maxLen; omega) (Nat.le_refl _) ?_; intro w1 hown hgr)
  have hb1 := hid ((Below.refl w.heap.size w).grown hgr (Nat.le_refl _) (fun k h => by cases h))
  have ho1 := hid (OwC.made hown)
  clear hown hgr hi hz0 hz1 hz2
  go_loopw [4] (fun i wr => ∃ (k : Nat) (ys : List Ho) (vals : List Value), k ≤ n ∧ i = .int .i64 k ∧ Hid (ys.length = hs.length) ∧ Hid (OwC wr w.heap.size (.slice none 0 0) (.slice (some ⟨w.heap.size, 0, none⟩) n n) vals ⟨[], ys⟩) ∧ Hid (∀ j, j < k → ys[j]? = hs[j]?) ∧ Hid (Below w.heap.size w wr)) (fun i _ => n - (intOf i).toNat)
  case atStart => exact ⟨0, _, _, by omega, rfl, hid (by rw [List.length_replicate, hlen.out]), ho1, hid (fun j h => by omega), hb1⟩
  case round =>
    obtain ⟨k, ys, vals, hk, rfl, hyl, hown, hall, hbel⟩ := hrel
    have hsz := hbel.out.size
    by_cases hlt : k < n
    · obtain ⟨ad, Ai, m, ci, x, zs, rfl, hx, hml, c0, c1, hri⟩ := (h'.out.below hbel.out).at_ hlt
      have i0 : (0 : Int) ≤ (k : Int) := by omega
      have i1 : (k : Int) < (n : Int) := by omega
      have hmm : m < 1099511627776 := by rw [← hml.out]; exact hm'.out _ (List.mem_of_getElem? hx.out)
      go_wp2_with fail
      refine (toHold_any x _ hri.out hmm).mono ?_
      rintro e w3 ⟨A3, c3, rfl, o3, hb3⟩
      have ow3 := hid (hown.out.step hb3)
      have B3 := hid (hbel.out.trans (hb3.mono hsz))
      have hkl : k < ys.length := by rw [hyl.out, hlen.out]; exact hlt
      obtain ⟨Ax, mx, cx, k0, k1, k2, k3⟩ := ow3.out.hole' hkl
      have hlo := hid (fun g (hg : (Value.slice A3 zs.length c3).ownBlock = some g) => (o3.lt g hg).1)
      have hst := hid (ow3.out.setH hkl (own_lo o3 hsz) (fun g hg hk => by have h1 := hlo.out g hg; have h2 := (hown.out.lt hk).2; omega) x)
      have hB4 := hid ((B3.out.setCell (p := ⟨w.heap.size, k * 2, none⟩) (Nat.le_refl _) (.slice A3 zs.length c3)).setCell (p := ⟨w.heap.size, k * 2 + 1, none⟩) (Nat.le_refl _) (.int .i64 x))
      have hal := hid (pref_set hyl.out hx.out hall.out)
      clear hb3 c0 c1 o3
      go_wp2
      go_roundw
      case rel => exact ⟨k + 1, _, _, by omega, by go_num, hid (by rw [List.length_set]; exact hyl.out), hst, hal, hB4⟩
      case measure => simp [intOf]; omega
    · have hkn : ¬ ((k : Int) < (n : Int)) := by omega
      have e : ys = hs := by
        apply List.ext_getElem?
        intro i
        by_cases hi : i < n
        · exact hall.out i (by omega)
        · rw [List.getElem?_eq_none (by rw [hyl.out, hlen.out]; omega), List.getElem?_eq_none (by rw [hlen.out]; omega)]
      have hfin := hid (e ▸ hown.out)
      clear e
      go_wp2
      go_ret
      exact ⟨_, _, rfl, hfin.out, hbel.out⟩
end Go.Proofs.Ytgeihcbiahnnaaa
