/-
  The library's heap over the program's: Pop, Fix, Push; the program's take and ascending. No condition but lengths below 2^40.
-/
import Derived.Test.YtbnmeedmeikepaaGmLd
import Derived.Test.YtbnmeedmeikepaaGmM
namespace Go.Proofs.Ytbnmeedmeikepaa
open Go.RowKit
set_option linter.unusedVariables false
set_option linter.unusedSimpArgs false

theorem pop_perm2 {xs ys : List En} {n : Nat} (hl : xs.length = n + 1) (hy : ys.Perm (swE xs 0 n)) (hyn : atE ys n = atE xs 0) : xs.Perm (atE xs 0 :: ys.take n) := by
  have hyl : ys.length = n + 1 := by rw [hy.length_eq, swE_len, hl]
  have e : ys = ys.take n ++ [atE xs 0] := by
    have hn : n < ys.length := by omega
    have h1 : ys.take (n + 1) = ys := List.take_of_length_le (by omega)
    have h2 : ys.take (n + 1) = ys.take n ++ [ys[n]] := by rw [List.take_add_one, List.getElem?_eq_getElem hn]; rfl
    have h3 : ys[n] = atE xs 0 := by rw [← hyn]; simp [atE, hn]
    exact h1.symm.trans (h2.trans (by rw [h3]))
  have h4 : ys.Perm xs := hy.trans (swE_perm (by omega) (by omega))
  rw [e] at h4
  exact h4.symm.trans (List.perm_append_comm (l₁ := ys.take n) (l₂ := [atE xs 0]))

def HPopPost (lo hb g n c : Nat) (zs : List En) (w : World) (e : Ending) (w' : World) : Prop :=
  (∃ (m t k : Int) (f : Bool), atE zs 0 = (m, (t, k), f) ∧ e = .returned (.iface 34 (enV m t k f))) ∧ (∃ ys, HMs w' lo hb g n c ys ∧ zs.Perm (atE zs 0 :: ys) ∧ Hp ys n) ∧ Kp (fun k => k = hb ∨ k = g) w w'

set_option maxHeartbeats 4000000 in
theorem heapPop_any {lo hb g n c : Nat} {zs : List En} (w : World) (H : HMs w lo hb g (n + 1) c zs) (hx : Hp zs (n + 1)) (hN : n + 1 < 1099511627776) :
    Calls Try.prog 57 #[.iface 58 (.pointer (some ⟨hb, 0, none⟩))] w (HPopPost lo hb g n c zs w) := by
  have H' := hid H
  have hlen := hid H.2.2.1
  have hs := hid (hx.swapOut H.2.2.1)
  have hc := H.1.cell
  have mL := meth_Len hc
  have mS := meth_Swap hc
  clear H hx
  have hend : ∀ (W : World) (ys : List En) (r : Bool), HMs W lo hb g (n + 1) c ys → ys.Perm (swE zs 0 n) → Hp ys n → (∀ k, n ≤ k → atE ys k = atE (swE zs 0 n) k) → Kp (fun k => k = g) w W →
      ∀ (e : Ending) (w' : World), PopPost lo hb g n c ys W e w' → HPopPost lo hb g n c zs w e w' := fun W ys r h1 h2 h3 h4 h5 e w' h6 => by
    obtain ⟨⟨m, t, k, f, h7, h8⟩, h9, h10⟩ := h6
    have hyn : atE ys n = atE zs 0 := by
      rw [h4 n (Nat.le_refl _), swE_at (by rw [hlen.out]; omega) (by rw [hlen.out]; omega), if_pos rfl]
    refine ⟨⟨m, t, k, f, by rw [← hyn]; exact h7, h8⟩, ⟨ys.take n, h9, pop_perm2 hlen.out h2 hyn, h3.take⟩, (h5.mono fun i hi => .inr hi).trans h10 (fun i _ hi => .inl hi)⟩
  have hend' := hid hend
  clear hend
  by_cases hn : n = 0
  · subst hn
    go_enter Try.func57, Try.ntmps57
    go_wp2_with fail
    refine (Len_any _ _ _ _).mono ?_
    rintro e w1 ⟨rfl, rfl⟩
    go_wp2_with fail
    refine (Swap_00 _ H'.out.2.1 hlen.out (by omega) (by omega)).mono ?_
    rintro e w2 ⟨rfl, ho2, hg2⟩
    have hH2 := hid (H'.out.put ho2 (by rw [swE_len]) hg2)
    have hK2 := hid ((Kp.refl (fun k => k = g) w).grown hg2 (fun i hi => .inr (by injection hi with hi; exact hi.symm)))
    clear ho2 hg2
    go_wp2_with fail
    refine (down_any _ hH2.out (by omega) (Nat.zero_le _) (Nat.zero_le _) hs.out).mono ?_
    rintro e w3 ⟨ys, r, rfl, h1, h2, h3, h4, _, h5⟩
    have h1 := hid h1
    have hE := hid (hend'.out w3 ys r h1.out h2 h3 h4 (hK2.out.then h5))
    have mP := meth_Pop hb w3
    clear h2 h3 h4 h5
    go_wp2_with fail
    refine (PopM_any _ h1.out (by omega)).mono ?_
    intro e w4 h6
    have h7 := hE.out e w4 h6
    obtain ⟨⟨m, t, k, f, h8, rfl⟩, h9, h10⟩ := h7
    have h8 := hid h8
    have h9 := hid h9
    have h10 := hid h10
    clear h6
    go_wp2
    go_ret
    exact ⟨⟨m, t, k, f, h8.out, rfl⟩, h9.out, h10.out⟩
  · have hn1 : 1 ≤ n := by omega
    go_enter Try.func57, Try.ntmps57
    go_wp2_with fail
    refine (Len_any _ _ _ _).mono ?_
    rintro e w1 ⟨rfl, rfl⟩
    go_wp2_with fail
    refine (Swap_at _ H'.out.2.1 hlen.out (by omega) (i := 0) (j := n) (by omega) (by omega) (by omega) rfl (by omega)).mono ?_
    rintro e w2 ⟨rfl, ho2, hg2⟩
    have hH2 := hid (H'.out.put ho2 (by rw [swE_len]) hg2)
    have hK2 := hid ((Kp.refl (fun k => k = g) w).grown hg2 (fun i hi => .inr (by injection hi with hi; exact hi.symm)))
    clear ho2 hg2
    go_wp2_with fail
    refine (down_at _ hH2.out (by omega) (n := n) (by omega) (i0 := 0) (Nat.zero_le _) hs.out rfl (by omega)).mono ?_
    rintro e w3 ⟨ys, r, rfl, h1, h2, h3, h4, _, h5⟩
    have h1 := hid h1
    have hE := hid (hend'.out w3 ys r h1.out h2 h3 h4 (hK2.out.then h5))
    have mP := meth_Pop hb w3
    clear h2 h3 h4 h5
    go_wp2_with fail
    refine (PopM_any _ h1.out (by omega)).mono ?_
    intro e w4 h6
    have h7 := hE.out e w4 h6
    obtain ⟨⟨m, t, k, f, h8, rfl⟩, h9, h10⟩ := h7
    have h8 := hid h8
    have h9 := hid h9
    have h10 := hid h10
    clear h6
    go_wp2
    go_ret
    exact ⟨⟨m, t, k, f, h8.out, rfl⟩, h9.out, h10.out⟩

/-- a heap in memory of the entries of S -/
def HpIs (w : World) (lo hb g n c : Nat) (S : List En) : Prop := ∃ zs, HMs w lo hb g n c zs ∧ Hp zs n ∧ zs.Perm S

theorem HpIs.len {w : World} {lo hb g n c : Nat} {S : List En} (h : HpIs w lo hb g n c S) : S.length = n := by
  obtain ⟨zs, h1, _, h2⟩ := h
  rw [← h2.length_eq]; exact h1.2.2.1

theorem HpIs.below {w w' : World} {lo hb g n c : Nat} {S : List En} (h : HpIs w lo hb g n c S) (hb' : Below w.heap.size w w') : HpIs w' lo hb g n c S := by
  obtain ⟨zs, h1, h2⟩ := h
  exact ⟨zs, h1.below hb', h2⟩

def TakePost (lo hb g n c : Nat) (m t k : Int) (f : Bool) (S : List En) (w : World) (e : Ending) (w' : World) : Prop :=
  e = .returned (enV m t k f) ∧ HpIs w' lo hb g n c S ∧ Kp (fun k => k = hb ∨ k = g) w w'

set_option maxHeartbeats 2000000 in
theorem take_any {lo hb g n c : Nat} {m t k : Int} {f : Bool} {S : List En} (w : World) (H : HpIs w lo hb g (n + 1) c ((m, (t, k), f) :: S)) (hS : AscE ((m, (t, k), f) :: S)) (hN : n + 1 < 1099511627776) :
    Calls Try.prog 38 #[.pointer (some ⟨hb, 0, none⟩)] w (TakePost lo hb g n c m t k f S w) := by
  obtain ⟨zs, h1, h2, h3⟩ := H
  have hhead : atE zs 0 = (m, (t, k), f) := by
    have h4 : Hp zs zs.length := by rw [h1.2.2.1]; exact h2
    exact h4.head h3 hS
  have hb0 := below1 w (.cells #[.int .i64 0, .int .i64 0, .int .i64 0, .bool false] 34)
  have hR0 := hid (Cs.new w 34 #[.int .i64 0, .int .i64 0, .int .i64 0, .bool false])
  have h1' := hid (h1.below hb0)
  have h2' := hid h2
  have h3' := hid h3
  have hh := hid hhead
  have hta := run_assertE m t k f
  have hlt := h1.lt
  have hlt2 := h1.1.lt
  clear h1 h2 h3 hhead hb0
  go_enter Try.func38, Try.ntmps38
  go_wp2_with fail
  refine (heapPop_any _ h1'.out h2'.out hN).mono ?_
  rintro e w1 ⟨⟨m', t', k', f', h4, rfl⟩, ⟨ys, h5, h6, h7⟩, h8⟩
  obtain ⟨rfl, rfl, rfl, rfl⟩ : m' = m ∧ t' = t ∧ k' = k ∧ f' = f := by
    rw [hh.out] at h4
    simp only [Prod.mk.injEq] at h4
    exact ⟨h4.1.symm, h4.2.1.1.symm, h4.2.1.2.symm, h4.2.2.symm⟩
  have hR1 := hid (hR0.out.kp h8 (by omega))
  have hq : Hid (HpIs w1 lo hb g n c S) := hid ⟨ys, h5, h7, by
    have := h6.symm.trans h3'.out
    rw [hh.out] at this
    exact (List.perm_cons _).1 this⟩
  have hK : Hid (Kp (fun k => k = hb ∨ k = g) w w1) := hid (((Kp.refl _ w).alloc _).then h8)
  obtain ⟨q0, q1, q2, q3⟩ := hR1.out.four
  obtain ⟨u0, u1, u2, u3⟩ := hR1.out.free4
  have z1 := hR1.out.lt
  have hfin : Hid (HpIs ((((w1.setCell ⟨w.heap.size, 0, none⟩ (.int .i64 m')).setCell ⟨w.heap.size, 1, none⟩ (.int .i64 t')).setCell ⟨w.heap.size, 2, none⟩ (.int .i64 k')).setCell ⟨w.heap.size, 3, none⟩ (.bool f')) lo hb g n c S ∧
      Kp (fun k => k = hb ∨ k = g) w ((((w1.setCell ⟨w.heap.size, 0, none⟩ (.int .i64 m')).setCell ⟨w.heap.size, 1, none⟩ (.int .i64 t')).setCell ⟨w.heap.size, 2, none⟩ (.int .i64 k')).setCell ⟨w.heap.size, 3, none⟩ (.bool f'))) := hid (by
    refine ⟨?_, ((((hK.out.setCell (.inl (Nat.le_refl _)) _).setCell (.inl (Nat.le_refl _)) _).setCell (.inl (Nat.le_refl _)) _).setCell (.inl (Nat.le_refl _)) _)⟩
    obtain ⟨ys, a1, a2, a3⟩ := hq.out
    have hgr := grown_put (World.grownBy.refl w1 (some w.heap.size)) 0 (.int .i64 m') (.int .i64 t') (.int .i64 k') (.bool f')
    refine ⟨ys, ⟨(hgr.block hb a1.1.lt (fun e => by injection e with e; omega)).trans a1.1, a1.2.1.of_block (fun b hb' => hgr.block b (a1.2.1.lt b hb').2 (fun e => by
      injection e with e
      injection hb' with hb'
      simp at hb'
      omega)), a1.2.2⟩, a2, a3⟩)
  have hres := hid (((((hR1.out.set 0 (.int .i64 m')).set 1 (.int .i64 t')).set 2 (.int .i64 k')).set 3 (.bool f')).four)
  clear h4 h5 h6 h7 h8
  go_wp2
  obtain ⟨s0, s1, s2, s3⟩ := hres.out
  refine bodyPost_ret (v := enV m' t' k' f') (by simp [results, Try.results38, go_sem, q0, q1, q2, q3]) rfl ⟨rfl, hfin.out.1, hfin.out.2⟩
end Go.Proofs.Ytbnmeedmeikepaa
