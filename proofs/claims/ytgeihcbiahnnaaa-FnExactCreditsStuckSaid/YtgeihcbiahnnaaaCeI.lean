/-
  Contract of the program's copied. No condition but lengths below 2^40.
-/
import Derived.Test.YtgeihcbiahnnaaaCeH
namespace Go.Proofs.Ytgeihcbiahnnaaa
open Go.RowKit
set_option linter.unusedVariables false
set_option linter.unusedSimpArgs false

theorem OwC.drewN {w : World} {lo : Nat} {F H : Value} {vals : List Value} {c : Cr} (h : OwC w lo F H vals c) (k : Nat) : OwC (w.drewN k) lo F H vals c := ⟨h.f, h.h, h.len, h.i, h.apF, h.ap, h.top⟩
/-- senders alone, in a literal of none -/
theorem OwC.lit0 (w : World) {lo : Nat} (hlo : lo ≤ w.heap.size) : OwC (w.alloc (.cells #[] 49)) lo (.slice none 0 0) (.slice (some ⟨w.heap.size, 0, none⟩) 0 0) [] ⟨[], []⟩ where
  f := World.ownsRow_nil _ _ _ _
  h := ⟨rfl, .inr ⟨w.heap.size, 0, #[], rfl, hlo, heap_alloc_new w _, Nat.le_refl _, Nat.zero_le _, rfl, rfl⟩⟩
  len := rfl
  i := fun i x hx => by simp at hx
  apF := fun v hv => by cases hv
  ap := fun i j u v _ hu => by simp at hu
  top := fun g hg => by
    rcases hg with hg | hg | ⟨v, hv, _⟩
    · cases hg
    · injection hg with hg
      simp only at hg
      subst hg
      simp
    · cases hv

/-- the free numbers laid beside the senders -/
theorem OwC.withF' {w : World} {lo : Nat} {F H : Value} {vals : List Value} {fr : List Int} {hs : List Ho} (h : OwC w lo (.slice none 0 0) H vals ⟨[], hs⟩) (hf : OwI w lo F fr) (hne : ∀ g, F.ownBlock = some g → ¬ bkC (.slice none 0 0) H vals g) : OwC w lo F H vals ⟨fr, hs⟩ where
  f := hf
  h := h.h
  len := h.len
  i := h.i
  apF := fun v hv g hg e => hne g e (.inr (.inr ⟨v, hv, hg⟩))
  ap := h.ap
  top := fun g hg => by
    rcases hg with hg | hg | hg
    · exact (hf.lt g hg).2
    · exact h.top g (.inr (.inl hg))
    · exact h.top g (.inr (.inr hg))

set_option maxHeartbeats 8000000 in
theorem copied_any {A1 A2 : Option Addr} {n1 n2 c1 c2 : Nat} {c : Cr} (w : World) (hr : RdC w A1 n1 A2 n2 c) (h5 : n1 < 1000000) :
    Calls Try.prog 50 #[crV (.slice A1 n1 c1) (.slice A2 n2 c2)] w (CrPost c w) := by
  obtain ⟨W, hW⟩ : ∃ W, (w.alloc (.cells #[.slice A1 n1 c1, .slice A2 n2 c2] 25)).alloc (.cells #[.slice none 0 0, .slice none 0 0] 25) = W := ⟨_, rfl⟩
  have hT := hid (show Two0 w W (.slice A1 n1 c1) (.slice A2 n2 c2) by rw [← hW]; exact Two0.new w _ _)
  have hR := hid (show RdC W A1 n1 A2 n2 c by rw [← hW]; exact (hr.alloc _).alloc _)
  have hr0 := hid hr
  obtain ⟨l1, l2⟩ := hr.len
  have l1' := hid l1
  have l2' := hid l2
  have b2 := hr.b2
  have hlt := hT.out.lt
  replace hW := hid hW
  clear hr l1 l2
  obtain ⟨d0, d1, -, -⟩ := (hT.out.step (below1 W (.cells #[] 49))).a.two
  have hO0 := hid (show OwC (W.alloc (.cells #[] 49)) W.heap.size (.slice none 0 0) (.slice (some ⟨W.heap.size, 0, none⟩) 0 0) [] ⟨[], c.hs.take 0⟩ from OwC.lit0 W (Nat.le_refl _))
  have hb0 := hid (below1 W (.cells #[] 49))
  go_enter Try.func50, Try.ntmps50
  go_upto_region 1 with (fail)
  rw [hW.out]
  go_wp2
  go_loopw [3, 10] (fun s i wr => ∃ (k : Nat) (H : Value) (vals : List Value), k ≤ n2 ∧ i = .int .i64 k ∧ H = s ∧ Hid (OwC wr W.heap.size (.slice none 0 0) H vals ⟨[], c.hs.take k⟩) ∧ Hid (Below W.heap.size W wr)) (fun _ i _ => n2 - (intOf i).toNat)
  case atStart => exact ⟨0, _, [], Nat.zero_le _, rfl, rfl, hO0, hb0⟩
  case round =>
    clear hO0 hb0 d0 d1
    obtain ⟨k, H, vals, hk, rfl, rfl, hO, hb⟩ := hrel
    have hbz := hb.out.size
    by_cases hltk : k < n2
    · have hRw := hid (hR.out.step hb.out)
      have hkl : k < c.hs.length := by rw [l2'.out]; exact hltk
      have i0 : (0 : Int) ≤ (k : Int) := by omega
      have i1 : (k : Int) < (n2 : Int) := by omega
      obtain ⟨b, off, Ai, m, ci, rfl, hbb, hm, e0, e1, hri, hmc, hci, hml⟩ := hRw.out.at_ hltk
      obtain ⟨x, hx⟩ : ∃ x, (c.h k).2 = x := ⟨_, rfl⟩
      obtain ⟨zs, hzs⟩ : ∃ zs, (c.h k).1 = zs := ⟨_, rfl⟩
      have hst := hid (show c.hs.take (k + 1) = c.hs.take k ++ [(zs, x)] by rw [take_snocH (at_h hkl), ← hx, ← hzs])
      rw [hx] at e1
      rw [hzs] at hm hri
      obtain ⟨W5, hW5⟩ : ∃ W5, (wr.alloc (.cells #[.slice Ai m ci, .int .i64 x] 49)) = W5 := ⟨_, rfl⟩
      have hT5 := hid (show Cs W5 wr.heap.size 49 #[.slice Ai m ci, .int .i64 x] by rw [← hW5]; exact Cs.new wr _ _)
      have hO5 := hid (show OwC W5 W.heap.size (.slice none 0 0) H vals ⟨[], c.hs.take k⟩ by rw [← hW5]; exact hO.out.step (below1 wr _))
      have hb5 := hid (show Below W.heap.size W W5 by rw [← hW5]; exact hb.out.alloc hbz _)
      have hz5 : wr.heap.size < W5.heap.size := by rw [← hW5]; simp
      have hl5 := hid (OwI.lit0 W5 rfl)
      have hr5 := hid (show RdI (W5.alloc (.cells #[] 3)) W5.heap.size Ai m zs from Reads.alloc ((by rw [← hW5]; exact (Reads.alloc hri.out (Nat.le_refl _) _).more (by simp))) (Nat.le_refl _) _)
      obtain ⟨p0, p1, -, -⟩ := hT5.out.two
      obtain ⟨q0, q1, -, -⟩ := (hT5.out.alloc (.cells #[] 3)).two
      have hkn : Hid ((c.hs.take k).length < 1099511627776) := hid (by rw [List.length_take]; omega)
      have hNb := hid (fun g (hg : bkC (.slice none 0 0) H vals g) => (hO5.out.lt hg).2)
      have hB5 : W5.heap.size ≤ (W5.alloc (.cells #[] 3)).heap.size := by simp
      have hn5' : ([] : List Int).length + m < 1099511627776 := by simp; omega
      have hW5' := hid hW5
      clear hx hzs hri hW5 hO hb hRw
      go_upto_region 5 with (fail)
      rw [hW5'.out]
      clear hW5' e0 e1
      go_region_law (first | (refine step_appIH rfl (.tmp 15) (.tmp 17) rfl (B := W5.heap.size) (v := .slice (some ⟨W5.heap.size, 0, none⟩) 0 0) (zs := []) rfl rfl hl5.out hr5.out hB5 hn5' ?_; intro v6 w6 hv6 hg6 hk6; rw [List.nil_append] at hv6; obtain ⟨B6, C6, rfl, -⟩ := hv6.form; have hb6 := hid (show Below W5.heap.size W5 w6 from (((below1 W5 (.cells #[] 3)).drew).grown hg6 hB5 (fun k h => by injection h with h; simp only at h; omega))); obtain ⟨t0, t1, -, -⟩ := (hT5.out.step hb6.out).two; have hO6 := hid (hO5.out.step hb6.out); have hz6 := hb6.out.size; have hv6' := hid hv6; clear hg6 hk6 hv6) | (refine step_appHo rfl (.tmp 14) (.tmp 22) rfl W.heap.size B6 zs.length C6 x H (c.hs.take k).length (hcs vals (c.hs.take k)) rfl rfl rfl hO6.out.h (by omega) hkn.out ?_; intro H8 w8 hH8 hg8))
      all_goals
        have hO8 := hid (hO6.out.app (own_lo hv6'.out (by omega)) (fun g hg hbk => by have h1 := (hv6'.out.lt g hg).1; have h2 := hNb.out g hbk; omega) hH8 hg8)
        have hb8 := hid (((hb5.out.trans (hb6.out.mono (by omega))).grown hg8 (by omega) (fun g hg => (hO6.out.lt (.inr (.inl hg))).1)))
        rw [← hst.out] at hO8
        clear hO6 hO5 hb5 hH8 hg8 hT5 hl5 hr5
        go_wp2
        go_roundw
        case rel => exact ⟨k + 1, _, _, by omega, by go_num, rfl, hO8, hb8⟩
        case measure => simp [intOf]; omega
    · obtain rfl : k = n2 := by omega
      rw [List.take_of_length_le (by rw [l2'.out]; omega)] at hO
      have hTr := hid (hT.out.step hb.out)
      have hkk : ¬ ((k : Int) < (k : Int)) := by omega
      have hlit := hid (OwI.lit0 wr rfl)
      have hF2 := hid (show RdI (wr.alloc (.cells #[] 3)) wr.heap.size A1 n1 c.fr from Reads.alloc ((Reads.below hR.out.f hb.out).more hbz) (Nat.le_refl _) _)
      obtain ⟨A9, N9, C9, e9, hN9⟩ := own_formN hO.out.h
      subst e9
      have hO' := hid hO.out
      obtain ⟨u0, u1, -, -⟩ := (hTr.out.step (below1 wr (.cells #[] 3))).a.two
      clear hO
      go_wp2_with (at_builtin; refine wpList_appH2 rfl (.tmp 25) (.tmp 27) rfl (B := wr.heap.size) (v := .slice (some ⟨wr.heap.size, 0, none⟩) 0 0) (zs := []) rfl rfl hlit.out hF2.out (by simp) (by simp; omega) ?_; intro v1 w1 hv1 hg1 hk1; rw [List.nil_append] at hv1; obtain ⟨B1, C1, rfl, -⟩ := hv1.form; have hb1 := hid (show Below wr.heap.size wr w1 from ((below1 wr (.cells #[] 3)).grown hg1 (by simp) (fun k h => by injection h with h; simp only at h; omega))); have hT1 := hid (hTr.out.step hb1.out); obtain ⟨z0, z1, z2, z3⟩ := hT1.out.z.two)
      have hO1 := hid ((hO'.out.step hb1.out).withF' (own_lo hv1 hbz) (fun g hg hk => by have h1 := (hv1.lt g hg).1; have h2 := (hO'.out.lt hk).2; omega))
      obtain ⟨ro, rb, rc⟩ := hT1.out.ret hO1.out (by omega)
      obtain ⟨r0, r1, -, -⟩ := rc.two
      replace ro := hid ro
      replace rb := hid rb
      clear rc hO' hO1 hv1 hg1 hk1
      go_wp2
      refine bodyPost_ret (v := crV (.slice B1 c.fr.length C1) (.slice A9 N9 C9)) (by simp [results, Try.results50, go_sem, r0, r1]) rfl ⟨_, _, _, rfl, ro.out, rb.out⟩
end Go.Proofs.Ytgeihcbiahnnaaa
