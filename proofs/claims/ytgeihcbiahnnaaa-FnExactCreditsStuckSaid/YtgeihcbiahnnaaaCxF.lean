/-
  The exact laws' marks over credits, continued: markCredits, heldCredits. No condition but lengths below 2^40.
-/
import Derived.Test.YtgeihcbiahnnaaaCxE
namespace Go.Proofs.Ytgeihcbiahnnaaa
open Go.RowKit
set_option linter.unusedVariables false
set_option linter.unusedSimpArgs false

set_option maxHeartbeats 2000000 in
theorem heldHoldS_any {A1 A2 : Option Addr} {n1 n2 c2 : Nat} {fr : List Int} {hs : List Ho} (k0 : Int) (w : World) (h : RdC w A1 n1 A2 n2 ⟨fr, mkH k0 hs⟩) (hn : n2 ≤ 1048576) (hs1 : ∀ x ∈ hs, x.1.length ≤ 1048576) (hk0 : 0 ≤ k0) (hk1 : k0 < 1099511627776) :
    Calls Try.prog 36 #[.slice A2 n2 c2, .int .i64 k0] w fun e w' => e = .returned (.int .i64 (posH k0 hs n2)) ∧ w = w' := by
  have hl := hid (show hs.length = n2 by have := h.len.2; rw [mkH_len] at this; exact this)
  have h' := hid h
  have hs' := hid hs1
  have hbd := hid (fun j (hj : j ≤ n2) => posH_bd hk0 hs1 j (by rw [hl.out]; exact hj))
  clear h hs1
  go_enter Try.func36, Try.ntmps36
  go_wp2
  go_loop [1, 5] (fun x i => ∃ (j : Nat) (p : Int), j ≤ n2 ∧ i = .int .i64 j ∧ x = .int .i64 p ∧ 0 ≤ p ∧ p ≤ k0 + (j : Int) * 1048577 ∧ Hid (p = posH k0 hs j)) (fun _ i => n2 - (intOf i).toNat)
  case atStart => exact ⟨0, k0, by omega, rfl, rfl, hk0, by omega, hid posH_zero.symm⟩
  case round =>
    obtain ⟨j, p, hj, rfl, rfl, p0, p1, hp⟩ := hrel
    by_cases hlt : j < n2
    · have i0 : (0 : Int) ≤ (j : Int) := by omega
      have i1 : (j : Int) < (n2 : Int) := by omega
      have hjl : j < hs.length := by rw [hl.out]; exact hlt
      obtain ⟨b, off, Ai, m, ci, rfl, hb, hm, e0, e1, hri, hmc, hci, hml⟩ := h'.out.at_ hlt
      have hyj : Cr.h ⟨fr, mkH k0 hs⟩ j = mkHo k0 hs j := h_at (c := ⟨fr, mkH k0 hs⟩) (mkH_get hjl)
      obtain ⟨m', hm'⟩ : ∃ m', (hs.getD j ([], -1)).1.length = m' := ⟨_, rfl⟩
      have hpm : mkHo k0 hs j = (marks p m', p + (m' : Int)) := by unfold mkHo; rw [← hp.out, hm']
      rw [hyj, hpm] at hm hri e1
      have em : m' = m := by have := hm.out; simpa [marks_len] using this
      subst em
      have hps := hid (show posH k0 hs (j + 1) = p + (m' : Int) + 1 by rw [posH_succ hjl, ← hp.out, hm'])
      have hmm : m' ≤ 1048576 := by rw [← hm', show hs.getD j ([], -1) = hs[j] by simp [hjl]]; exact hs'.out _ (List.getElem_mem hjl)
      have hj9 : (j : Int) * 1048577 ≤ 1048576 * 1048577 := Int.mul_le_mul_of_nonneg_right (by omega) (by omega)
      have hri' := hid (show RdI w w.heap.size Ai m' (marks p m') from hri.out)
      have g0 : ¬ (p + (m' : Int) < 0) := by omega
      have g1 : (p + (m' : Int) != p + (m' : Int)) = false := by simp
      clear hyj hm' hpm hm hri
      go_wp2_with (go_at_call 27; (with_reducible refine (heldIntS_any p _ hri'.out (by omega) p0 (by omega)).mono ?_); rintro e w2 ⟨rfl, rfl⟩)
      go_round
      case rel => exact ⟨j + 1, p + (m' : Int) + 1, by omega, by go_num, by go_num, by omega, by omega, hid hps.out.symm⟩
      case measure => simp [intOf]; omega
    · obtain rfl : j = n2 := by omega
      have hkn : ¬ ((j : Int) < (j : Int)) := by omega
      go_wp2
      go_ret
      exact ⟨ret_int hp.out, rfl⟩

set_option maxHeartbeats 2000000 in
theorem markCredits_any {lo hi n1 n2 c1 c2 : Nat} {A1 A2 : Option Addr} {vals : List Value} {c : Cr} (k0 : Int) (w : World) (h : Lc w lo hi A1 n1 c1 A2 n2 c2 vals c) (sm : Sm c) (hk0 : 0 ≤ k0) (hk1 : k0 < 1048576) :
    Calls Try.prog 15 #[crV (.slice A1 n1 c1) (.slice A2 n2 c2), .int .i64 k0] w fun e w' => e = .returned (.int .i64 (endC k0 c)) ∧ Lc w' lo hi A1 n1 c1 A2 n2 c2 vals (mkC' k0 c) ∧ Kp (fun b => lo ≤ b ∧ b < hi) w w' := by
  obtain ⟨W, hW⟩ : ∃ W, w.alloc (.cells #[.slice A1 n1 c1, .slice A2 n2 c2] 25) = W := ⟨_, rfl⟩
  have B := hid (show Below w.heap.size w W by rw [← hW]; exact below1 w _)
  have C := hid (show Cs W w.heap.size 25 #[.slice A1 n1 c1, .slice A2 n2 c2] by rw [← hW]; exact Cs.new w _ _)
  have L := hid (h.step B.out)
  have l1 := hid h.l1
  have l2 := hid h.l2
  have sm' := hid sm
  have hn1 : n1 ≤ 1048576 := by rw [← h.l1]; exact sm.f
  have hn2 : n2 ≤ 1048576 := by rw [← h.l2]; exact sm.h
  have hin := hid (fun b (hb : bkC (.slice A1 n1 c1) (.slice A2 n2 c2) vals b) => (show lo ≤ b ∧ b < hi from ⟨(h.ow.lt hb).1, h.hb b hb⟩))
  have hhi := h.hi
  replace hW := hid hW
  clear h sm
  have LV := hid (show Lv W lo hi (.slice A1 n1 c1) c.fr from ⟨⟨by have := L.out.ow.f; exact this, fun g hg => (hin.out g (.inl hg)).2⟩, L.out.hi⟩)
  go_enter Try.func15, Try.ntmps15
  go_upto_region 1 with (fail)
  rw [hW.out]
  obtain ⟨d0, d1, -, -⟩ := C.out.two
  go_wp2_with fail
  refine (markIntS_lv k0 _ LV.out (by omega) hk0 (by omega)).mono ?_
  rintro e w1 ⟨rfl, o1, g1, s1⟩
  have hcI := hid (fun g (hg : (Value.slice A1 n1 c1).ownBlock = some g) => hin.out g (.inl hg))
  have K1 := hid (((Kp.of_below (S := fun b => lo ≤ b ∧ b < hi) B.out).grown g1 (fun g hg => .inr (hcI.out g hg))))
  have hO1 := hid (show OwC w1 lo (.slice A1 n1 c1) (.slice A2 n2 c2) vals ⟨marks k0 n1, c.hs⟩ from by
    have hL := L.out.ow
    have hblk : ∀ g, bkC (.slice A1 n1 c1) (.slice A2 n2 c2) vals g → (Value.slice A1 n1 c1).ownBlock ≠ some g → w1.heap[g]? = W.heap[g]? := fun g hk hne => g1.block g (hL.lt hk).2 (fun e => hne e.symm)
    refine ⟨by have := o1.1.1; exact this, own_of_blk hL.h fun g hg => hblk g (.inr (.inl hg)) (fun e => own_type hL.f hL.h (by decide) g e hg), hL.len, fun k y hy => ?_, hL.apF, hL.ap, fun g hg => Nat.lt_of_lt_of_le (hL.top g hg) g1.size⟩
    obtain ⟨u, q1, q2⟩ := hL.i k y hy
    exact ⟨u, q1, own_of_block q2 fun g hg => hblk g (.inr (.inr ⟨u, List.mem_of_getElem? q1, hg⟩)) (hL.apF u (List.mem_of_getElem? q1) g hg)⟩)
  have C1 := hid (show Cs w1 w.heap.size 25 #[.slice A1 n1 c1, .slice A2 n2 c2] from (g1.block _ C.out.lt (fun e => by have := (hcI.out _ e.symm).2; omega)).trans C.out)
  clear o1 g1 s1 d0 d1 LV C B
  obtain ⟨d0, d1, -, -⟩ := C1.out.two
  go_wp2_with fail
  refine (markHoldS_any (k0 + (n1 : Int)) _ hO1.out l2.out hn2 sm'.out.s (by omega) (by omega)).mono ?_
  rintro e w2 ⟨rfl, o2, k2⟩
  have KF := hid (K1.out.trans k2 (fun g hg hb => by
    rcases hb with hb | hb | hb
    · cases hb
    · exact hin.out g (.inr (.inl hb))
    · exact hin.out g (.inr (.inr hb))))
  have HF := hid (show Lc w2 lo hi A1 n1 c1 A2 n2 c2 vals (mkC' k0 c) from ⟨by have := o2; unfold mkC'; rw [l1.out]; exact this, by simp only [mkC', marks_len]; exact l1.out, by simp only [mkC', mkH_len]; exact l2.out, fun b hb => (hin.out b hb).2, Nat.le_trans hhi KF.out.size⟩)
  have R := hid (show endC k0 c = posH (k0 + (n1 : Int)) c.hs n2 by unfold endC; rw [l1.out, l2.out])
  clear o2 k2 d0 d1 C1 hO1 K1
  go_wp2
  go_ret
  exact ⟨ret_int R.out.symm, HF.out, KF.out⟩

set_option maxHeartbeats 2000000 in
theorem heldCredits_any {A1 A2 : Option Addr} {n1 n2 c1 c2 : Nat} {c : Cr} (k0 : Int) (w : World) (h : RdC w A1 n1 A2 n2 (mkC' k0 c)) (sm : Sm c) (hk0 : 0 ≤ k0) (hk1 : k0 < 1048576) :
    Calls Try.prog 16 #[crV (.slice A1 n1 c1) (.slice A2 n2 c2), .int .i64 k0] w fun e w' => e = .returned (.int .i64 (endC k0 c)) ∧ Below w.heap.size w w' := by
  obtain ⟨W, hW⟩ : ∃ W, w.alloc (.cells #[.slice A1 n1 c1, .slice A2 n2 c2] 25) = W := ⟨_, rfl⟩
  have B := hid (show Below w.heap.size w W by rw [← hW]; exact below1 w _)
  have C := hid (show Cs W w.heap.size 25 #[.slice A1 n1 c1, .slice A2 n2 c2] by rw [← hW]; exact Cs.new w _ _)
  have l1 := hid (show c.fr.length = n1 by have := h.len.1; simpa [mkC', marks_len] using this)
  have l2 := hid (show c.hs.length = n2 by have := h.len.2; simpa [mkC', mkH_len] using this)
  have hn1 : n1 ≤ 1048576 := by rw [← l1.out]; exact sm.f
  have hn2 : n2 ≤ 1048576 := by rw [← l2.out]; exact sm.h
  have hR := hid (show RdC W A1 n1 A2 n2 ⟨marks k0 n1, mkH (k0 + (n1 : Int)) c.hs⟩ by have := h.step B.out; unfold mkC' at this; rw [l1.out] at this; exact this)
  have sm' := hid sm
  have hE := hid (endC_bd hk0 sm)
  have R := hid (show endC k0 c = posH (k0 + (n1 : Int)) c.hs n2 by unfold endC; rw [l1.out, l2.out])
  replace hW := hid hW
  obtain ⟨d0, d1, -, -⟩ := C.out.two
  have g0 : ¬ (k0 + (n1 : Int) < 0) := by omega
  obtain ⟨z, hz⟩ : ∃ z, posH (k0 + (n1 : Int)) c.hs n2 = z := ⟨_, rfl⟩
  have g1 : ¬ (z < 0) := by rw [← hz, ← R.out]; have := hE.out.1; omega
  rw [hz] at R
  have hz' := hid hz
  clear h sm hz
  go_enter Try.func16, Try.ntmps16
  go_upto_region 1 with (fail)
  rw [hW.out]
  go_wp2_with (go_at_call 27; (with_reducible refine (heldIntS_any k0 _ hR.out.f (by omega) hk0 (by omega)).mono ?_); rintro e w2 ⟨rfl, rfl⟩)
  refine (heldHoldS_any (k0 + (n1 : Int)) _ hR.out hn2 sm'.out.s (by omega) (by omega)).mono ?_
  rw [hz'.out]
  rintro e w2 ⟨rfl, rfl⟩
  go_wp2
  go_ret
  exact ⟨ret_int R.out.symm, B.out⟩
end Go.Proofs.Ytgeihcbiahnnaaa
