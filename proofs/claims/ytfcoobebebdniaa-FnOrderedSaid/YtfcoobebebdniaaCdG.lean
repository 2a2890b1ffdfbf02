/-
  Credits in memory, continued: a sender appended; the model's copy. No condition but lengths below 2^40.
-/
import Derived.Test.YtfcoobebebdniaaCdF
import Derived.Test.YtfcoobebebdniaaRmHi
namespace Go.Proofs.Ytfcoobebebdniaa
open Go.RowKit
set_option linter.unusedVariables false
set_option linter.unusedSimpArgs false

theorem info_ho : (Try.prog.info? 33).map (fun i => (i.zero, i.size, i.bytes)) = some (some (.agg #[.slice none 0 0, .int .i64 0]), 2, 32) := by kernel_rfl

theorem und_hos : Try.prog.underlying 26 = some (.slice 33) := by kernel_rfl
/-- one sender appended whose literal lies already -/
theorem wpList_appHo {w : World} {ops : Array Oper} {rest : List Oper} {o : Oper} {a : Act} {Q : Exit → Act → World → Prop} (hgd : o.guard = none) (s x : Operand)
    (ho : o.op = .call { callee := .builtin .append, args := #[s, x], argTypes := #[26, 26] })
    (lo : Nat) (A : Option Addr) (m ci : Nat) (z : Int) (H : Value) (n : Nat) (xs : List Value) (hs : a.eval s = H) (hx : a.eval x = .slice (some ⟨w.heap.size, 0, none⟩) 1 1) (hown : w.ownsRow lo 33 2 H n xs) (hB : lo ≤ w.heap.size) (hn : n < 1099511627776)
    (h : ∀ H' w', w'.ownsRow lo 33 2 H' (n + 1) (xs ++ [.slice A m ci, .int .i64 z]) → w.grownBy w' H.ownBlock → wpList Try.prog ops Q rest (a.put o.dst H') w') :
    wpList Try.prog ops Q (o :: rest) a (w.alloc (.cells #[.slice A m ci, .int .i64 z] 33)) := by
  obtain ⟨i0, hi, hz0, hz1, hz2⟩ := info_parts info_ho
  refine wpList_append_own (P := Try.prog) _ hgd s x 26 ho lo 33 i0 (.agg #[.slice none 0 0, .int .i64 0]) 2 32 und_hos hi hz0 hz1 hz2 rfl (by decide) H n xs hs (own_of_blk hown fun g hg => Below.heap_alloc w _ g (hown.lt g hg).2) ⟨w.heap.size, 0, none⟩ 1 1 [.slice A m ci, .int .i64 z] hx rfl ?_ ?_ ?_ ?_ ?_ ?_
  · intro j u hj
    match j, hj with
    | 0, hj => simp at hj; subst hj; simp [Addr.add]
    | 1, hj => simp at hj; subst hj; simp [Addr.add]
  · intro u hu; simp at hu; rcases hu with rfl | rfl <;> rfl
  · unfold maxLen; omega
  · omega
  · simp; omega
  · intro v' w' hown' hg _
    exact h v' w' hown' ⟨hg.os, hg.tape, hg.output, by have := hg.size; simp at this; omega, fun i hi hne => (hg.block i (by simp; omega) hne).trans (Below.heap_alloc w _ i hi)⟩
section
variable {w w' : World} {lo lo' : Nat} {F H : Value} {vals : List Value} {fr : List Int} {hs : List Ho}

theorem OwC.nil (h : OwI w lo F fr) : OwC w lo F (.slice none 0 0) [] ⟨fr, []⟩ where
  f := h
  h := World.ownsRow_nil w _ _ _
  len := rfl
  i := fun i x hx => by simp at hx
  apF := fun v hv => by cases hv
  ap := fun i j u v _ hu => by simp at hu
  top := fun g hg => by
    rcases hg with hg | hg | ⟨v, hv, _⟩
    · exact (h.lt g hg).2
    · cases hg
    · cases hv
/-- behind an append of a sender -/
theorem OwC.app {H' v : Value} {zs : List Int} {x : Int} (h : OwC w lo F H vals ⟨fr, hs⟩) (hv : OwI w lo v zs) (hvn : ∀ g, v.ownBlock = some g → ¬ bkC F H vals g)
    (hH : w'.ownsRow lo 33 2 H' (hs.length + 1) (hcs vals hs ++ [v, .int .i64 x])) (hg : w.grownBy w' H.ownBlock) : OwC w' lo F H' (vals ++ [v]) ⟨fr, hs ++ [(zs, x)]⟩ := by
  have hkeep : ∀ {u : Value} {us : List Int}, OwI w lo u us → OwI w' lo u us := fun hu => own_of_block hu fun q hq => hg.block q (hu.lt q hq).2 fun e => own_type hu h.h (by decide) q hq e.symm
  have hlen := h.len
  refine ⟨hkeep h.f, ?_, by simp [hlen], fun k y hy => ?_, fun u hu g hg' => ?_, fun i j u1 u2 hij h1 h2 g hg' => ?_, fun q hq => ?_⟩
  · show World.ownsRow _ lo _ 2 _ (hs ++ [(zs, x)]).length _
    rw [hcs_app v (zs, x) h.len, List.length_append]
    exact hH
  · simp only at hy hlen
    rcases Nat.lt_or_ge k hs.length with hl | hl
    · rw [List.getElem?_append_left hl] at hy
      obtain ⟨u, h1, h2⟩ := h.i k y hy
      exact ⟨u, by rw [List.getElem?_append_left (by omega)]; exact h1, hkeep h2⟩
    · rw [List.getElem?_append_right hl] at hy
      have hk0 : k - hs.length = 0 := by
        have := (List.getElem?_eq_some_iff.1 hy).1
        simp at this; omega
      rw [hk0] at hy
      simp at hy
      subst hy
      refine ⟨v, ?_, hkeep hv⟩
      rw [List.getElem?_append_right (by omega), show k - vals.length = 0 by omega]; rfl
  · rcases List.mem_append.1 hu with hu | hu
    · exact h.apF u hu g hg'
    · simp at hu; subst hu
      exact fun e => hvn g hg' (.inl e)
  · rcases Nat.lt_or_ge j vals.length with hl | hl
    · rw [List.getElem?_append_left hl] at h2
      rw [List.getElem?_append_left (by omega)] at h1
      exact h.ap i j u1 u2 hij h1 h2 g hg'
    · rw [List.getElem?_append_right hl] at h2
      have hj0 : j - vals.length = 0 := by
        have := (List.getElem?_eq_some_iff.1 h2).1
        simp at this; omega
      rw [hj0] at h2
      simp at h2; subst h2
      rw [List.getElem?_append_left (by omega)] at h1
      exact fun e => hvn g e (.inr (.inr ⟨u1, List.mem_of_getElem? h1, hg'⟩))
  · have hz := hg.size
    rcases hq with hq | hq | ⟨u, hu, hq⟩
    · have := h.top q (.inl hq); omega
    · exact (hH.lt q hq).2
    · rcases List.mem_append.1 hu with hu | hu
      · have := h.top q (.inr (.inr ⟨u, hu, hq⟩)); omega
      · simp at hu; subst hu
        have := (hv.lt q hq).2; omega
end

theorem OwC.off {w : World} {lo b : Nat} {F H : Value} {vals : List Value} {c : Cr} {T : TypeId} {cs : Array Value} (h : OwC w lo F H vals c) (k : Cs w b T cs) (h1 : 3 ≠ T) (h2 : 33 ≠ T) : ¬ bkC F H vals b := by
  rintro (e | e | ⟨v, hv, e⟩)
  · exact cs_type k h.f h1 e
  · exact cs_type k h.h h2 e
  · obtain ⟨q, hq, rfl⟩ := List.getElem_of_mem hv
    have hq2 : q < c.hs.length := by rw [← h.len]; exact hq
    obtain ⟨v, e1, e2⟩ := h.i q _ (List.getElem?_eq_getElem hq2)
    rw [List.getElem?_eq_getElem hq] at e1
    injection e1 with e1
    rw [e1] at e
    exact cs_type k e2 h1 e

theorem OwC.one {w : World} {lo : Nat} {F H : Value} {vals : List Value} {c : Cr} {p : Addr} (h : OwC w lo F H vals c) (hp : ¬ bkC F H vals p.block) (u : Value) : OwC (w.setCell p u) lo F H vals c :=
  h.of_blocks (by simp [World.setCell]) fun g hg => heap_setCell_other w p g u (fun e => hp (by rw [← e]; exact hg))

theorem own_form {w : World} {lo n sz : Nat} {e : TypeId} {v : Value} {xs : List Value} (h : w.ownsRow lo e sz v n xs) : ∃ A c, v = .slice A n c := by
  rcases h.2 with ⟨rfl, rfl⟩ | ⟨g, cap, cur, rfl, _⟩
  · exact ⟨_, _, rfl⟩
  · exact ⟨_, _, rfl⟩

theorem own_formN {w : World} {lo n sz : Nat} {e : TypeId} {v : Value} {xs : List Value} (h : w.ownsRow lo e sz v n xs) : ∃ A N c, v = .slice A N c ∧ Hid (N = n) := by
  obtain ⟨A, c, e⟩ := own_form h
  exact ⟨A, n, c, e, rfl⟩

theorem take_snocH {hs : List Ho} {k : Nat} {h : Ho} (hk : hs[k]? = some h) : hs.take (k + 1) = hs.take k ++ [h] := by
  obtain ⟨hl, e⟩ := List.getElem?_eq_some_iff.1 hk
  rw [List.take_succ_eq_append_getElem hl, e]
/-- what a call that makes credits hands back -/
def CrPost (c : Cr) (w : World) (e : Ending) (w' : World) : Prop := ∃ F H vals, e = .returned (crV F H) ∧ OwC w' w.heap.size F H vals c ∧ Below w.heap.size w w'

set_option maxHeartbeats 4000000 in
theorem l22Copy_any {A1 A2 : Option Addr} {n1 n2 c1 c2 : Nat} {c : Cr} (w : World) (hr : RdC w A1 n1 A2 n2 c) (h5 : n1 < 1000000) :
    Calls Try.prog 61 #[crV (.slice A1 n1 c1) (.slice A2 n2 c2)] w (CrPost c w) := by
  obtain ⟨W, hW⟩ : ∃ W, (w.alloc (.cells #[.slice A1 n1 c1, .slice A2 n2 c2] 28)).alloc (.cells #[.slice none 0 0, .slice none 0 0] 28) = W := ⟨_, rfl⟩
  have hB := hid (show Below w.heap.size w W by rw [← hW]; exact below2 w _ _)
  have hC := hid (show Cs W w.heap.size 28 #[.slice A1 n1 c1, .slice A2 n2 c2] by rw [← hW]; exact (Cs.new w _ _).alloc _)
  have hZ := hid (show Cs W (w.heap.size + 1) 28 #[.slice none 0 0, .slice none 0 0] by rw [← hW]; exact Cs.new' _ _ _ (by simp))
  have hR := hid (show RdC W A1 n1 A2 n2 c by rw [← hW]; exact (hr.alloc _).alloc _)
  have hWz : w.heap.size + 1 < W.heap.size := by rw [← hW]; simp
  obtain ⟨l1, l2⟩ := hr.len
  have l1' := hid l1
  have l2' := hid l2
  have b2 := hr.b2
  replace hW := hid hW
  clear hr l1 l2
  have hlit := hid (OwI.lit0 W rfl)
  have hF2 := hid (show RdI (W.alloc (.cells #[] 3)) W.heap.size A1 n1 c.fr from Reads.alloc hR.out.f (Nat.le_refl _) _)
  obtain ⟨d0, d1, -, -⟩ := (hC.out.alloc (.cells #[] 3)).two
  go_enter Try.func61, Try.ntmps61
  go_upto_region 1 with (fail)
  rw [hW.out]
  go_wp2_with (at_builtin; refine wpList_appH2 rfl (.tmp 6) (.tmp 8) rfl (B := W.heap.size) (v := .slice (some ⟨W.heap.size, 0, none⟩) 0 0) (zs := []) rfl rfl hlit.out hF2.out (by simp) (by simp; omega) ?_; intro v1 w1 hv1 hg1 hk1; rw [List.nil_append] at hv1; obtain ⟨B1, C1, rfl, -⟩ := hv1.form)
  have hb1 := hid (show Below W.heap.size W w1 from ((below1 W (.cells #[] 3)).grown hg1 (by simp) (fun k h => by injection h with h; simp only at h; omega)))
  have hz1 := hb1.out.size
  obtain ⟨W4, hW4⟩ : ∃ W4, w1.alloc (.cells #[.slice B1 c.fr.length C1, .slice none 0 0] 28) = W4 := ⟨_, rfl⟩
  have hb4 := hid (show Below W.heap.size W W4 by rw [← hW4]; exact hb1.out.alloc hz1 _)
  have hO4 := hid (show OwC W4 W.heap.size (.slice B1 c.fr.length C1) (.slice none 0 0) [] ⟨c.fr, c.hs.take 0⟩ by
    rw [← hW4]
    exact OwC.nil (own_of_block hv1 fun g hg => Below.heap_alloc w1 _ g (hv1.lt g hg).2))
  have hU4 := hid (show Cs W4 w1.heap.size 28 #[.slice B1 c.fr.length C1, .slice none 0 0] by rw [← hW4]; exact Cs.new w1 _ _)
  have hW4' := hid hW4
  clear hlit hF2 d0 d1 hg1 hk1 hv1 hW4 hb1
  rw [hW4'.out]
  go_wp2
  go_loopw [4] (fun i wr => ∃ (k : Nat) (H : Value) (vals : List Value), k ≤ n2 ∧ i = .int .i64 k ∧ Hid (OwC wr W.heap.size (.slice B1 c.fr.length C1) H vals ⟨c.fr, c.hs.take k⟩) ∧ Hid (Cs wr w1.heap.size 28 #[.slice B1 c.fr.length C1, H]) ∧ Hid (Below W.heap.size W wr)) (fun i _ => n2 - (intOf i).toNat)
  case atStart => exact ⟨0, _, [], Nat.zero_le _, rfl, hO4, hU4, hb4⟩
  case round =>
    clear hO4 hU4 hb4
    obtain ⟨k, H, vals, hk, rfl, hO, hU, hb⟩ := hrel
    obtain ⟨d0, d1, -, -⟩ := (hC.out.step hb.out).two
    have hRw := hid (hR.out.step hb.out)
    have hbz := hb.out.size
    by_cases hlt : k < n2
    · have hkl : k < c.hs.length := by rw [l2'.out]; exact hlt
      have i0 : (0 : Int) ≤ (k : Int) := by omega
      have i1 : (k : Int) < (n2 : Int) := by omega
      obtain ⟨b, off, Ai, m, ci, rfl, hbb, hm, e0, e1, hri, hmc, hci, hml⟩ := hRw.out.at_ hlt
      obtain ⟨x, hx⟩ : ∃ x, (c.h k).2 = x := ⟨_, rfl⟩
      obtain ⟨zs, hzs⟩ : ∃ zs, (c.h k).1 = zs := ⟨_, rfl⟩
      have hst := hid (show c.hs.take (k + 1) = c.hs.take k ++ [(zs, x)] by rw [take_snocH (at_h hkl), ← hx, ← hzs])
      rw [hx] at e1
      rw [hzs] at hm hri
      obtain ⟨W5, hW5⟩ : ∃ W5, wr.alloc (.cells #[.slice Ai m ci, .int .i64 x] 33) = W5 := ⟨_, rfl⟩
      have hT5 := hid (show Cs W5 wr.heap.size 33 #[.slice Ai m ci, .int .i64 x] by rw [← hW5]; exact Cs.new wr _ _)
      have hO5 := hid (show OwC W5 W.heap.size (.slice B1 c.fr.length C1) H vals ⟨c.fr, c.hs.take k⟩ by rw [← hW5]; exact hO.out.step (below1 wr _))
      have hU5 := hid (show Cs W5 w1.heap.size 28 #[.slice B1 c.fr.length C1, H] by rw [← hW5]; exact hU.out.alloc _)
      have hb5 := hid (show Below W.heap.size W W5 by rw [← hW5]; exact hb.out.alloc hbz _)
      have hz5 : wr.heap.size < W5.heap.size := by rw [← hW5]; simp
      have hl5 := hid (OwI.lit0 W5 rfl)
      have hr5 := hid (show RdI (W5.alloc (.cells #[] 3)) W5.heap.size Ai m zs from Reads.alloc ((by rw [← hW5]; exact (Reads.alloc hri.out (Nat.le_refl _) _).more (by simp))) (Nat.le_refl _) _)
      obtain ⟨p0, p1, -, -⟩ := (hT5.out.alloc (.cells #[] 3)).two
      have hW5' := hid hW5
      have hNb := hid (fun g (hg : bkC (.slice B1 c.fr.length C1) H vals g) => (hO.out.lt hg).2)
      have hob := Cs.lt hU.out
      clear hx hzs hri hW5 hO hU hb hRw
      go_upto_region 6 with (fail)
      rw [hW5'.out]
      clear hW5' e0 e1 d0 d1
      go_upto_region 7 with (at_builtin; refine wpList_appH2 rfl (.tmp 23) (.tmp 25) rfl (B := W5.heap.size) (v := .slice (some ⟨W5.heap.size, 0, none⟩) 0 0) (zs := []) rfl rfl hl5.out hr5.out (by simp) (by simp; omega) ?_; intro v6 w6 hv6 hg6 hk6; rw [List.nil_append] at hv6; obtain ⟨B6, C6, rfl, -⟩ := hv6.form; have hb6 := hid (show Below W5.heap.size W5 w6 from ((below1 W5 (.cells #[] 3)).grown hg6 (by simp) (fun k h => by injection h with h; simp only at h; omega))); have hT6 := hid (hT5.out.step hb6.out); obtain ⟨t0, t1, -, -⟩ := hT6.out.two; have t2 := hT6.out.frozen 0)
      have hO6 := hid (hO5.out.step hb6.out)
      have hU6 := hid (hU5.out.step hb6.out)
      have hbb6 := hid (hb5.out.trans (hb6.out.mono hb5.out.size))
      have hz6 := hb6.out.size
      have hv6' := hid hv6
      obtain ⟨W7, hW7⟩ : ∃ W7, w6.setCell ⟨wr.heap.size, 0, none⟩ (.slice B6 zs.length C6) = W7 := ⟨_, rfl⟩
      have hne7 : Hid (∀ g, g ≠ wr.heap.size → W7.heap[g]? = w6.heap[g]?) := hid (by rw [← hW7]; exact fun g hg => heap_setCell_other w6 ⟨wr.heap.size, 0, none⟩ g _ hg)
      have hsz7 : Hid (W7.heap.size = w6.heap.size) := hid (by rw [← hW7]; simp [World.setCell])
      have hT7 := hid (show Cs W7 wr.heap.size 33 #[.slice B6 zs.length C6, .int .i64 x] by rw [← hW7]; exact hT6.out.set 0 _)
      have hO7 := hid (hO6.out.of_blocks (w' := W7) (by rw [hsz7.out]; omega) fun g hg => hne7.out g (fun e => by have := hNb.out g hg; omega))
      have hU7 := hid (show Cs W7 w1.heap.size 28 #[.slice B1 c.fr.length C1, H] from (hne7.out _ (by omega)).trans hU6.out)
      have hv7 := hid (own_of_block hv6'.out fun g hg => hne7.out g (fun e => by have := (hv6'.out.lt g hg).1; omega))
      have hb7 := hid (show Below W.heap.size W W7 by rw [← hW7]; exact hbb6.out.setCell (p := ⟨wr.heap.size, 0, none⟩) hbz _)
      have hz7 : W5.heap.size ≤ W7.heap.size := by rw [hsz7.out]; exact hz6
      have hkn : Hid ((c.hs.take k).length < 1099511627776) := hid (by rw [List.length_take]; omega)
      rw [hW7]
      obtain ⟨x0, x1, -, -⟩ := hT7.out.two
      obtain ⟨y0, y1, -, -⟩ := hU7.out.two
      clear hT5 hT6 hO5 hO6 hU5 hU6 hl5 hr5 p0 p1 t0 t1 t2 hg6 hv6 hk6 hb6 hbb6 hv6' hW7 hne7 hsz7 hb5 hz6
      go_upto_region 4 with (at_builtin; refine wpList_appHo rfl (.tmp 29) (.tmp 31) rfl W.heap.size B6 zs.length C6 x H (c.hs.take k).length (hcs vals (c.hs.take k)) rfl rfl hO7.out.h (by omega) hkn.out ?_; intro H8 w8 hH8 hg8; obtain ⟨A8, N8, C8, rfl, hN8⟩ := own_formN hH8; have hU8 := hid (show Cs w8 w1.heap.size 28 #[.slice B1 c.fr.length C1, H] from grown_cs hU7.out hg8 (cs_type hU7.out hO7.out.h (by decide))); obtain ⟨-, u1, -, -⟩ := hU8.out.two; have u2 := hU8.out.frozen 1)
      have hO8 := hid (hO7.out.app (own_lo hv7.out (by omega)) (fun g hg hbk => by have h1 := (hv7.out.lt g hg).1; have h2 := hNb.out g hbk; omega) hH8 hg8)
      have hb8 := hid (hb7.out.grown hg8 (by omega) (fun g hg => (hO7.out.lt (.inr (.inl hg))).1))
      rw [← hst.out] at hO8
      obtain ⟨W9, hW9⟩ : ∃ W9, w8.setCell ⟨w1.heap.size, 1, none⟩ (.slice A8 N8 C8) = W9 := ⟨_, rfl⟩
      have hO9 := hid (show OwC W9 W.heap.size (.slice B1 c.fr.length C1) (.slice A8 N8 C8) (vals ++ [.slice B6 zs.length C6]) ⟨c.fr, c.hs.take (k + 1)⟩ by rw [← hW9]; exact hO8.out.one (p := ⟨w1.heap.size, 1, none⟩) (hO8.out.off hU8.out (by decide) (by decide)) _)
      have hU9 := hid (show Cs W9 w1.heap.size 28 #[.slice B1 c.fr.length C1, .slice A8 N8 C8] by rw [← hW9]; exact hU8.out.set 1 _)
      have hb9 := hid (show Below W.heap.size W W9 by rw [← hW9]; exact hb8.out.setCell (p := ⟨w1.heap.size, 1, none⟩) hz1 _)
      rw [hW9]
      clear hO7 hU7 hv7 hb7 hO8 hU8 hb8 hT7 x0 x1 y0 y1 u1 u2 hH8 hg8 hW9
      go_wp2
      go_roundw
      case rel => exact ⟨k + 1, _, _, by omega, by go_num, hO9, hU9, hb9⟩
      case measure => simp [intOf]; omega
    · obtain rfl : k = n2 := by omega
      rw [List.take_of_length_le (by rw [l2'.out]; omega)] at hO
      obtain ⟨u0, u1, -, -⟩ := hU.out.two
      have hZr := hid (Cs.below hZ.out hb.out hWz)
      obtain ⟨z0, z1, z2, z3⟩ := hZr.out.two
      have hkk : ¬ ((k : Int) < (k : Int)) := by omega
      obtain ⟨A9, C9, e9⟩ := own_form hO.out.h
      subst e9
      have hOF := hid (((hO.out.one (p := ⟨w.heap.size + 1, 0, none⟩) (hO.out.off hZr.out (by decide) (by decide)) (.slice B1 c.fr.length C1)).one (p := ⟨w.heap.size + 1, 1, none⟩) (hO.out.off hZr.out (by decide) (by decide)) (.slice A9 c.hs.length C9)).more (by omega : w.heap.size ≤ W.heap.size))
      have hBF := hid (((hB.out.trans (hb.out.mono (by omega))).setCell (p := ⟨w.heap.size + 1, 0, none⟩) (by simp) (.slice B1 c.fr.length C1)).setCell (p := ⟨w.heap.size + 1, 1, none⟩) (by simp) (.slice A9 c.hs.length C9))
      obtain ⟨r0, r1, -, -⟩ := ((hZr.out.set 0 (.slice B1 c.fr.length C1)).set 1 (.slice A9 c.hs.length C9)).two
      clear hO hU hb
      go_wp2
      refine bodyPost_ret (v := crV (.slice B1 c.fr.length C1) (.slice A9 c.hs.length C9)) (by simp [results, Try.results61, go_sem, r0, r1]) rfl ⟨_, _, _, rfl, hOF.out, hBF.out⟩
end Go.Proofs.Ytfcoobebebdniaa
