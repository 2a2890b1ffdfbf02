/-
  The exact laws' marks over credits: markCredits, heldCredits. No condition but lengths below 2^40.
-/
import Derived.Test.YtgeihcbiahnnaaaCxC
namespace Go.Proofs.Ytgeihcbiahnnaaa
open Go.RowKit
set_option linter.unusedVariables false
set_option linter.unusedSimpArgs false

/-- the mark at sender j -/
def posH (k : Int) (hs : List Ho) (j : Nat) : Int := k + ((hs.take j).map fun h => (h.1.length : Int) + 1).sum

def mkHo (k : Int) (hs : List Ho) (j : Nat) : Ho := (marks (posH k hs j) (hs.getD j ([], -1)).1.length, posH k hs j + ((hs.getD j ([], -1)).1.length : Int))

def mkH (k : Int) (hs : List Ho) : List Ho := (List.range hs.length).map fun j => mkHo k hs j

theorem posH_zero {k : Int} {hs : List Ho} : posH k hs 0 = k := by simp [posH]

theorem posH_succ {k : Int} {hs : List Ho} {j : Nat} (hj : j < hs.length) : posH k hs (j + 1) = posH k hs j + ((hs.getD j ([], -1)).1.length : Int) + 1 := by
  unfold posH
  rw [List.take_succ_eq_append_getElem hj, List.map_append, List.sum_append]
  simp [hj]
  omega

theorem posH_bd {k : Int} {hs : List Ho} (h0 : 0 ≤ k) (hs' : ∀ x ∈ hs, x.1.length ≤ 1048576) : ∀ j, j ≤ hs.length → 0 ≤ posH k hs j ∧ posH k hs j ≤ k + (j : Int) * 1048577
  | 0, _ => by rw [posH_zero]; omega
  | j + 1, hj => by
    have := posH_bd h0 hs' j (by omega)
    rw [posH_succ (by omega)]
    have h2 := hs' _ (List.getElem_mem (show j < hs.length by omega))
    have h3 : hs.getD j ([], -1) = hs[j] := by simp [show j < hs.length by omega]
    rw [h3]
    omega

theorem mkH_len {k : Int} {hs : List Ho} : (mkH k hs).length = hs.length := by simp [mkH]

theorem mkH_get {k : Int} {hs : List Ho} {j : Nat} (hj : j < hs.length) : (mkH k hs)[j]? = some (mkHo k hs j) := by simp [mkH, hj]
/-- credits, marked -/
def mkC' (k : Int) (c : Cr) : Cr := ⟨marks k c.fr.length, mkH (k + (c.fr.length : Int)) c.hs⟩

def endC (k : Int) (c : Cr) : Int := posH (k + (c.fr.length : Int)) c.hs c.hs.length

theorem mkC_sm {k : Int} {c : Cr} (h : Sm c) : Sm (mkC' k c) := by
  refine ⟨by simp only [mkC', marks_len]; exact h.f, by simp only [mkC', mkH_len]; exact h.h, fun x hx => ?_⟩
  simp only [mkC', mkH, List.mem_map, List.mem_range] at hx
  obtain ⟨j, hj, rfl⟩ := hx
  simp only [mkHo, marks_len]
  have := h.s _ (List.getElem_mem hj)
  simpa [hj] using this

theorem endC_bd {k : Int} {c : Cr} (h0 : 0 ≤ k) (h : Sm c) : 0 ≤ endC k c ∧ endC k c ≤ k + 2 * 1048577 * 1048577 := by
  have h1 := posH_bd (k := k + (c.fr.length : Int)) (by omega) h.s c.hs.length (Nat.le_refl _)
  have h2 := h.f
  have h3 := h.h
  unfold endC
  refine ⟨h1.1, ?_⟩
  have : (c.hs.length : Int) * 1048577 ≤ 1048576 * 1048577 := Int.mul_le_mul_of_nonneg_right (by omega) (by omega)
  omega

theorem hcs_same : ∀ {vs : List Value} {hs : List Ho} {i : Nat} {zs : List Int}, hcs vs (hs.set i (zs, (hs.getD i ([], -1)).2)) = hcs vs hs
  | [], _, _, _ => by simp [hcs]
  | v :: vs, [], i, _ => by simp
  | v :: vs, h :: hs, 0, _ => by simp [hcs]
  | v :: vs, h :: hs, i + 1, zs => by
    have := hcs_same (vs := vs) (hs := hs) (i := i) (zs := zs)
    simpa [hcs] using this
section
variable {w w' : World} {lo b n cp s : Nat} {F : Value} {vals : List Value} {c : Cr}
/-- a sender's slot: its slice, owned, and its cells -/
theorem OwC.slot (h : OwC w lo F (.slice (some ⟨b, 0, none⟩) n cp) vals c) (hs : s < c.hs.length) :
    ∃ A ci, vals[s]? = some (.slice A (c.h s).1.length ci) ∧ OwI w lo (.slice A (c.h s).1.length ci) (c.h s).1 ∧ w.cell? ⟨b, s * 2, none⟩ = some (.slice A (c.h s).1.length ci) ∧ w.cell? ⟨b, s * 2 + 1, none⟩ = some (.int .i64 (c.h s).2) ∧ w.frozen? ⟨b, s * 2 + 1, none⟩ = false := by
  obtain ⟨k0, k1, -⟩ := h.setW hs 0
  obtain ⟨v, h1, h2⟩ := h.i s _ (at_h hs)
  obtain ⟨A, ci, e, -⟩ := h2.form
  have hl : c.hs.length = n := by
    rcases h.h.2 with ⟨e, _⟩ | ⟨g, cap, cur, e, _⟩
    · cases e
    · injection e with _ e2; exact e2.symm
  have hoo : w.ownsRow lo 49 2 (.slice (some ⟨b, 0, none⟩) n cp) n (hcs vals c.hs) := by have := h.h; rw [hl] at this; exact this
  subst e
  refine ⟨A, ci, h1, h2, ?_, k0, k1 _⟩
  rw [hoo.cellAt _ (by omega)]
  exact (hcs_get h1 (at_h hs)).1
/-- a sender's set, written in place -/
theorem OwC.setZ {v : Value} {zs : List Int} (h : OwC w lo F (.slice (some ⟨b, 0, none⟩) n cp) vals c) (hs : s < c.hs.length) (hv : vals[s]? = some v) (hg : w.grownBy w' v.ownBlock) (ho : OwI w' lo v zs) :
    OwC w' lo F (.slice (some ⟨b, 0, none⟩) n cp) vals ⟨c.fr, c.hs.set s (zs, (c.h s).2)⟩ := by
  obtain ⟨v', hv', hov⟩ := h.i s _ (at_h hs)
  rw [hv] at hv'
  injection hv' with hv'
  subst hv'
  have hblk : ∀ g, bkC F (.slice (some ⟨b, 0, none⟩) n cp) vals g → v.ownBlock ≠ some g → w'.heap[g]? = w.heap[g]? := fun g hk hne => hg.block g (h.lt hk).2 (fun e => hne e.symm)
  refine ⟨own_of_block h.f fun g hgg => hblk g (.inl hgg) (fun e => h.apF v (List.mem_of_getElem? hv) g e hgg), ?_, by simp [h.len], fun k y hy => ?_, h.apF, h.ap, fun g hgg => Nat.lt_of_lt_of_le (h.top g hgg) hg.size⟩
  · show World.ownsRow _ lo _ 2 _ (c.hs.set s _).length _
    rw [List.length_set, show hcs vals (c.hs.set s (zs, (c.h s).2)) = hcs vals c.hs from hcs_same]
    exact own_of_blk h.h fun g hgg => hblk g (.inr (.inl hgg)) (fun e => own_type hov h.h (by decide) g e hgg)
  · simp only at hy
    rw [List.getElem?_set] at hy
    by_cases e : s = k
    · subst e
      rw [if_pos rfl, if_pos hs] at hy
      injection hy with hy
      subst hy
      exact ⟨v, hv, ho⟩
    · rw [if_neg e] at hy
      obtain ⟨u, h1, h2⟩ := h.i k y hy
      refine ⟨u, h1, own_of_block h2 fun g hgg => hblk g (.inr (.inr ⟨u, List.mem_of_getElem? h1, hgg⟩)) (fun e2 => ?_)⟩
      rcases Nat.lt_or_gt_of_ne e with hl | hl
      · exact h.ap s k v u hl hv h1 g e2 hgg
      · exact h.ap k s u v hl h1 hv g hgg e2
end

theorem two_sets {α : Type} {l : List α} {s : Nat} {a b : α} : (l.set s a).set s b = l.set s b := by
  apply List.ext_getElem?
  intro i
  by_cases e : s = i
  · subst e
    by_cases hs : s < l.length
    · rw [List.getElem?_set_self (by simpa using hs), List.getElem?_set_self hs]
    · rw [List.getElem?_eq_none (by simp; omega), List.getElem?_eq_none (by simp; omega)]
  · rw [List.getElem?_set_ne e, List.getElem?_set_ne e, List.getElem?_set_ne e]

set_option maxHeartbeats 4000000 in
theorem markHoldS_any {lo c2 n : Nat} {A2 : Option Addr} {F : Value} {vals : List Value} {c : Cr} (k0 : Int) (w : World) (h : OwC w lo F (.slice A2 n c2) vals c) (hl : c.hs.length = n) (hn : n ≤ 1048576) (hs : ∀ x ∈ c.hs, x.1.length ≤ 1048576) (hk0 : 0 ≤ k0) (hk1 : k0 < 1099511627776) :
    Calls Try.prog 35 #[.slice A2 n c2, .int .i64 k0] w fun e w' => e = .returned (.int .i64 (posH k0 c.hs n)) ∧ OwC w' lo F (.slice A2 n c2) vals ⟨c.fr, mkH k0 c.hs⟩ ∧ Kp (bkC (.slice none 0 0) (.slice A2 n c2) vals) w w' := by
  rcases Nat.eq_zero_or_pos n with h0 | h0
  · subst h0
    have hz : c.hs = [] := List.eq_nil_of_length_eq_zero hl
    have R := hid (show posH k0 c.hs 0 = k0 from posH_zero)
    have hfin := hid (show OwC w lo F (.slice A2 0 c2) vals ⟨c.fr, mkH k0 c.hs⟩ by rw [hz]; rw [show (⟨c.fr, mkH k0 []⟩ : Cr) = c by cases c; simp only at hz; subst hz; rfl]; exact h)
    clear h hs hz
    go_enter Try.func35, Try.ntmps35
    go_wp2
    go_rounds 1
    go_ret
    exact ⟨ret_int R.out.symm, hfin.out, Kp.refl _ _⟩
  · obtain ⟨b, cap, e, hb1, hb2⟩ := own_some h.h (by omega)
    injection e with e1 e2 e3
    subst e1; subst e3
    have ho' := hid h
    have hl' := hid hl
    have hbd := hid (fun j (hj : j ≤ n) => posH_bd hk0 hs j (by rw [hl]; exact hj))
    have hs' := hid hs
    have hlo0 := hid (fun g (hg : bkC F (.slice (some ⟨b, 0, none⟩) n c2) vals g) => h.lt hg)
    clear h hs hl e2
    go_enter Try.func35, Try.ntmps35
    go_wp2
    go_loopw [1, 5] (fun x i wr => ∃ (j : Nat) (p : Int) (ys : List Ho), j ≤ n ∧ i = .int .i64 j ∧ x = .int .i64 p ∧ 0 ≤ p ∧ p ≤ k0 + (j : Int) * 1048577 ∧ Hid (p = posH k0 c.hs j) ∧ Hid (ys.length = n) ∧ Hid (OwC wr lo F (.slice (some ⟨b, 0, none⟩) n c2) vals ⟨c.fr, ys⟩) ∧ Hid (∀ q, q < j → ys[q]? = some (mkHo k0 c.hs q)) ∧ Hid (∀ q, j ≤ q → ys[q]? = c.hs[q]?) ∧ Hid (Kp (bkC (.slice none 0 0) (.slice (some ⟨b, 0, none⟩) n c2) vals) w wr)) (fun _ i _ => n - (intOf i).toNat)
    case atStart => exact ⟨0, k0, c.hs, by omega, rfl, rfl, hk0, by omega, hid posH_zero.symm, hl', ho', hid (fun q hq => by omega), hid (fun q _ => rfl), hid (Kp.refl _ _)⟩
    case round =>
      obtain ⟨j, p, ys, hj, rfl, rfl, p0, p1, hp, hyl, hown, hlow, hhigh, hkp⟩ := hrel
      by_cases hlt : j < n
      · have i0 : (0 : Int) ≤ (j : Int) := by omega
        have i1 : (j : Int) < (n : Int) := by omega
        have hjl : j < ys.length := by rw [hyl.out]; exact hlt
        obtain ⟨A, ci, hv, hov, d0, d1, d2⟩ := hown.out.slot (s := j) hjl
        have hyj : Cr.h ⟨c.fr, ys⟩ j = c.h j := by
          have e1 := hhigh.out j (Nat.le_refl _)
          show ys.getD j _ = c.hs.getD j _
          rw [List.getD_eq_getElem?_getD, List.getD_eq_getElem?_getD, e1]
        rw [hyj] at hv hov d0 d1
        obtain ⟨m, hm⟩ : ∃ m, (c.h j).1.length = m := ⟨_, rfl⟩
        have hmm : m ≤ 1048576 := by rw [← hm]; exact hs'.out _ (List.mem_of_getElem? (at_h (by rw [hl'.out]; exact hlt)))
        rw [hm] at hv hov d0
        have hps := hid (show posH k0 c.hs (j + 1) = p + (m : Int) + 1 by rw [posH_succ (by rw [hl'.out]; exact hlt), ← hp.out]; show _ + ((c.h j).1.length : Int) + 1 = _; rw [hm])
        have hpm := hid (show mkHo k0 c.hs j = (marks p m, p + (m : Int)) by unfold mkHo; rw [← hp.out]; show (marks p (c.h j).1.length, p + ((c.h j).1.length : Int)) = _; rw [hm])
        have hj9 : (j : Int) * 1048577 ≤ 1048576 * 1048577 := Int.mul_le_mul_of_nonneg_right (by omega) (by omega)
        have LV := hid (Lv.ofI hov)
        have hv' := hid hv
        have hyj' := hid hyj
        have hbv := hid (show ∀ g, (Value.slice A m ci).ownBlock = some g → bkC (.slice none 0 0) (.slice (some ⟨b, 0, none⟩) n c2) vals g from fun g hg => .inr (.inr ⟨_, List.mem_of_getElem? hv, hg⟩))
        have hnb := hid (own_type hov hown.out.h (by decide))
        clear hv hov hyj hm d1 d2
        go_wp2_with fail
        refine (markIntS_lv p _ LV.out (by omega) p0 (by omega)).mono ?_
        rintro e w2 ⟨rfl, o2, g2, -⟩
        have hO2 := hid (hown.out.setZ (s := j) hjl hv'.out g2 o2.1.1)
        have hK2 := hid (hkp.out.grown g2 (fun g hg => .inr (hbv.out g hg)))
        have hjl2 : j < (ys.set j (marks p m, (Cr.h ⟨c.fr, ys⟩ j).2)).length := by rw [List.length_set]; exact hjl
        obtain ⟨k0', k1', hO3⟩ := hO2.out.setW (s := j) hjl2 (p + (m : Int))
        have k2' := k1' (j * 2 + 1)
        have hset : (⟨(⟨c.fr, ys.set j (marks p m, (Cr.h ⟨c.fr, ys⟩ j).2)⟩ : Cr).fr, (⟨c.fr, ys.set j (marks p m, (Cr.h ⟨c.fr, ys⟩ j).2)⟩ : Cr).hs.set j ((Cr.h ⟨c.fr, ys.set j (marks p m, (Cr.h ⟨c.fr, ys⟩ j).2)⟩ j).1, p + (m : Int))⟩ : Cr) = ⟨c.fr, ys.set j (marks p m, p + (m : Int))⟩ := by
          simp only
          rw [two_sets]
          have : (Cr.h ⟨c.fr, ys.set j (marks p m, (Cr.h ⟨c.fr, ys⟩ j).2)⟩ j).1 = marks p m := by
            rw [h_at (c := ⟨c.fr, ys.set j (marks p m, (Cr.h ⟨c.fr, ys⟩ j).2)⟩) (List.getElem?_set_self hjl)]
          rw [this]
        rw [hset] at hO3
        have hO3' := hid hO3
        have hK3 := hid (hK2.out.setCell (p := ⟨b, j * 2 + 1, none⟩) (.inr (.inr (.inl rfl))) (.int .i64 (p + (m : Int))))
        have dd0 := hnb
        clear hO3 hset hO2 hK2 k1' g2 o2
        go_wp2
        go_roundw
        case rel => exact ⟨j + 1, p + (m : Int) + 1, ys.set j (marks p m, p + (m : Int)), by omega, by go_num, by go_num, by omega, by omega, hid hps.out.symm, hid (by rw [List.length_set]; exact hyl.out), hO3', hid (fun q hq => by
              by_cases e : q = j
              · subst e
                rw [List.getElem?_set_self hjl, hpm.out]
              · rw [List.getElem?_set_ne (fun h => e h.symm)]; exact hlow.out q (by omega)), hid (fun q hq => by
              rw [List.getElem?_set_ne (by omega)]; exact hhigh.out q (by omega)), hK3⟩
        case measure => simp [intOf]; omega
      · obtain rfl : j = n := by omega
        have hkn : ¬ ((j : Int) < (j : Int)) := by omega
        have e : ys = mkH k0 c.hs := by
          apply List.ext_getElem?
          intro q
          by_cases hq : q < j
          · rw [hlow.out q hq, mkH_get (by rw [hl'.out]; exact hq)]
          · rw [List.getElem?_eq_none (by rw [hyl.out]; omega), List.getElem?_eq_none (by rw [mkH_len, hl'.out]; omega)]
        have hfin := hid (e ▸ hown.out)
        clear e
        go_wp2
        go_ret
        exact ⟨ret_int hp.out, hfin.out, hkp.out⟩
end Go.Proofs.Ytgeihcbiahnnaaa
