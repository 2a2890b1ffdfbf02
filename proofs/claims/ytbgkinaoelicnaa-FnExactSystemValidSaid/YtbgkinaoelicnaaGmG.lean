/-
  Contracts of the model: l11List, GroupValid. No condition but lengths below 2^40.
-/
import Derived.Test.YtbgkinaoelicnaaMgE
namespace Go.Proofs.Ytbgkinaoelicnaa
open Go.RowKit
set_option linter.unusedVariables false

/-! ### contracts with the answer told -/
theorem l11Message_as {m : Int} {r : Bool} (h : msB m = r) (w : World) : Calls Try.prog 31 #[.int .i64 m] w fun e w' => e = .returned (.bool r) ∧ w = w' := by
  subst h; exact l11Message_any m w

theorem l11Find_as {B n c : Nat} {A : Option Addr} {zs : List En} {m r : Int} (h : plI zs m = r) (w : World) (hr : RdE w B A n zs) (hn : n < 1099511627776) :
    Calls Try.prog 21 #[.slice A n c, .int .i64 m] w fun e w' => e = .returned (.int .i64 r) ∧ w = w' := by
  subst h; exact l11Find_any m w hr hn

theorem StampValid_as {t g : Int} {r : Bool} (h : stB t g = r) (w : World) : Calls Try.prog 32 #[two t g] w fun e w' => e = .returned (.bool r) ∧ Below w.heap.size w w' := by
  subst h; exact StampValid_spec t g w

theorem l2Less_as {a b c d : Int} {r : Bool} (h : lexB a b c d = r) (w : World) : Calls Try.prog 12 #[two a b, two c d] w fun e w' => e = .returned (.bool r) ∧ Below w.heap.size w w' := by
  subst h; exact l2Less_any a b c d w

/-! ### the list's condition, one entry at a time -/
theorem take_last {zs : List En} {k : Nat} {y : En} (hk : k ≤ zs.length) : (zs.take k).getLast? = some y ↔ (0 < k ∧ zs[k - 1]? = some y) := by
  rw [List.getLast?_take]
  by_cases h : k = 0
  · subst h; simp
  · rw [if_neg h]
    have hk1 : k - 1 < zs.length := by omega
    rw [List.getElem?_eq_getElem hk1]
    simp
    omega

theorem take_snocE {zs : List En} {k : Nat} {x : En} (hx : zs[k]? = some x) : zs.take (k + 1) = zs.take k ++ [x] := by rw [List.take_add_one, hx]; rfl

theorem ls_at {id ck : Int} {zs : List En} {k : Nat} {x : En} (hx : zs[k]? = some x) (h : LsOk id ck zs) : okE id ck x = true ∧ (∀ y, 0 < k → zs[k - 1]? = some y → ltS y.2.1 x.2.1 = true) ∧ ∀ y ∈ zs.take k, y.1 ≠ x.1 := by
  have hk : k ≤ zs.length := Nat.le_of_lt (List.getElem?_eq_some_iff.1 hx).1
  have h2 : LsOk id ck (zs.take k ++ [x]) := by
    rw [← take_snocE hx]
    have := h
    rw [← List.take_append_drop (k + 1) zs] at this
    exact this.left
  obtain ⟨_, h3, h4, h5⟩ := LsOk.snoc.1 h2
  exact ⟨h3, fun y h0 hy => h4 y ((take_last hk).2 ⟨h0, hy⟩), h5⟩

theorem ls_bad {id ck : Int} {zs : List En} {k : Nat} {x : En} (hx : zs[k]? = some x) (h : ¬ (okE id ck x = true ∧ (∀ y, 0 < k → zs[k - 1]? = some y → ltS y.2.1 x.2.1 = true) ∧ ∀ y ∈ zs.take k, y.1 ≠ x.1)) : lsB id ck zs = false := by
  cases hl : lsB id ck zs with
  | false => rfl
  | true => exact absurd (ls_at hx (lsB_true.1 hl)) h

theorem ls_next {id ck : Int} {zs : List En} {k : Nat} {x : En} (h : LsOk id ck (zs.take k)) (hx : zs[k]? = some x) (h1 : okE id ck x = true) (h2 : ∀ y, 0 < k → zs[k - 1]? = some y → ltS y.2.1 x.2.1 = true) (h3 : ∀ y ∈ zs.take k, y.1 ≠ x.1) :
    LsOk id ck (zs.take (k + 1)) := by
  have hk : k ≤ zs.length := Nat.le_of_lt (List.getElem?_eq_some_iff.1 hx).1
  rw [take_snocE hx]
  exact LsOk.snoc.2 ⟨h, h1, fun y hy => h2 y ((take_last hk).1 hy).1 ((take_last hk).1 hy).2, h3⟩

theorem okE_no {id ck m t g : Int} {f : Bool} (h : msB m = false ∨ stB t g = false ∨ ck < t ∨ (f = false ∧ g ≠ id)) : okE id ck (m, (t, g), f) = false := by
  cases ho : okE id ck (m, (t, g), f) with
  | false => rfl
  | true =>
    obtain ⟨h1, h2, h3, h4⟩ := okE_true.1 ho
    simp only [okS] at h1 h2 h3 h4
    rcases h with h | h | h | ⟨h, k⟩
    · rw [h1] at h; cases h
    · rw [h2] at h; cases h
    · omega
    · rcases h4 with h4 | h4
      · rw [h4] at h; cases h
      · exact absurd h4 k

theorem okE_yes {id ck m t g : Int} {f : Bool} (h1 : msB m = true) (h2 : stB t g = true) (h3 : t ≤ ck) (h4 : f = true ∨ g = id) : okE id ck (m, (t, g), f) = true := okE_true.2 ⟨h1, h2, h3, h4⟩

abbrev gpV (id ck : Int) (p q : Value) : Value := .agg #[.int .i64 id, .int .i64 ck, p, q]

set_option maxRecDepth 100000 in
set_option maxHeartbeats 4000000 in
theorem l11List_any {n c n1 c1 n2 c2 : Nat} {A A1 A2 : Option Addr} {zs : List En} (id ck : Int) (w : World) (hr : RdE w w.heap.size A n zs) (hn : n < 1099511627776) (hnc : n ≤ c) (hc : c ≤ 9223372036854775807) :
    Calls Try.prog 20 #[gpV id ck (.slice A1 n1 c1) (.slice A2 n2 c2), .slice A n c] w fun e w' => e = .returned (.bool (lsB id ck zs)) ∧ Below w.heap.size w w' := by
  have hl' := hid hr.len
  have hr' := hid hr
  have hG0 := hid (Cs.new w 36 #[.int .i64 id, .int .i64 ck, .slice A1 n1 c1, .slice A2 n2 c2])
  have hB0 := hid (below1 w (.cells #[.int .i64 id, .int .i64 ck, .slice A1 n1 c1, .slice A2 n2 c2] 36))
  clear hr
  go_enter Try.func20, Try.ntmps20
  go_wp2
  go_loopw [5] (fun i wr => ∃ k : Nat, k ≤ n ∧ i = .int .i64 k ∧ Hid (LsOk id ck (zs.take k)) ∧ Hid (Cs wr w.heap.size 36 #[.int .i64 id, .int .i64 ck, .slice A1 n1 c1, .slice A2 n2 c2]) ∧ Hid (Below w.heap.size w wr)) (fun i _ => n - (intOf i).toNat)
  case atStart => exact ⟨0, Nat.zero_le _, rfl, hid (LsOk.nil _ _), hG0, hB0⟩
  case round =>
    obtain ⟨k, hk, rfl, hall, hG, hB⟩ := hrel
    by_cases hlt : k < n
    · obtain ⟨b, off, m, t, g, f, rfl, hx, hb, c0, c1, c2, c3⟩ := (hr'.out.below hB.out).at_ hlt
      have hGw : w.heap.size < wr.heap.size := hG.out.lt
      have hbw : b < wr.heap.size := by omega
      have E0 : ∀ x : BW (wr.alloc (.cells #[.int .i64 m, .int .i64 t, .int .i64 g, .bool f] 40)), x.wd.cell? ⟨wr.heap.size, 0, none⟩ = some (.int .i64 m) := fun x => x.cell ((Cs.new wr _ _).cell 0)
      have E1 : ∀ x : BW (wr.alloc (.cells #[.int .i64 m, .int .i64 t, .int .i64 g, .bool f] 40)), x.wd.cell? ⟨wr.heap.size, 1, none⟩ = some (.int .i64 t) := fun x => x.cell ((Cs.new wr _ _).cell 1)
      have E2 : ∀ x : BW (wr.alloc (.cells #[.int .i64 m, .int .i64 t, .int .i64 g, .bool f] 40)), x.wd.cell? ⟨wr.heap.size, 2, none⟩ = some (.int .i64 g) := fun x => x.cell ((Cs.new wr _ _).cell 2)
      have G1 : ∀ x : BW (wr.alloc (.cells #[.int .i64 m, .int .i64 t, .int .i64 g, .bool f] 40)), x.wd.cell? ⟨w.heap.size, 1, none⟩ = some (.int .i64 ck) := fun x => x.cell ((hG.out.alloc _).cell 1)
      have HRD : Hid (∀ x : BW (wr.alloc (.cells #[.int .i64 m, .int .i64 t, .int .i64 g, .bool f] 40)), RdE x.wd w.heap.size (some ⟨b, off, none⟩) k (zs.take k)) := hid (fun x => (((hr'.out.below hB.out).take hk).alloc hB.out.size _).below (x.below.mono (by simp; omega)))
      have i0 : (0 : Int) ≤ (k : Int) := by omega
      have i1 : (k : Int) < (n : Int) := by omega
      have i2 : k ≤ c := by omega
      have hhide := True.intro
      cases hM : msB m with
      | false =>
        have R := hid (ls_bad (id := id) (ck := ck) hx.out (fun h => by rw [okE_no (.inl hM)] at h; cases h.1))
        have hM := hid hM
        clear hhide
        go_wp2_with fail
        refine wp_region_below (by kernel_rfl) (by kernel_rfl) ?_
        repeat (go_big_quiet_step (((first   | (go_at_call 31; exact BW.same _ (l11Message_as hM.out _))   | (go_at_call 32; exact BW.call _ (StampValid_as hS.out _))   | (go_at_call 12; exact BW.call _ (l2Less_as hL.out _))   | (go_at_call 21; exact BW.same _ (l11Find_as hF.out _ (HRD.out _) (by omega)))))))
        refine wpQuiet_nil ?_
        intro w1 hb1
        have hB1 := hid (hB.out.trans ((below1 wr _).trans (hb1.mono (by simp))|>.mono hB.out.size))
        have hG1 := hid (hG.out.below ((below1 wr _).trans (hb1.mono (by simp))) hGw)
        clear hb1 hG1
        go_wp2
        go_ret
        exact ⟨by rw [R.out]; rfl, hB1.out⟩
      | true =>
        have hM := hid hM
        cases hS : stB t g with
        | false =>
          have R := hid (ls_bad (id := id) (ck := ck) hx.out (fun h => by rw [okE_no (.inr (.inl hS))] at h; cases h.1))
          have hS := hid hS
          clear hhide
          go_wp2_with fail
          refine wp_region_below (by kernel_rfl) (by kernel_rfl) ?_
          repeat (go_big_quiet_step (((first   | (go_at_call 31; exact BW.same _ (l11Message_as hM.out _))   | (go_at_call 32; exact BW.call _ (StampValid_as hS.out _))   | (go_at_call 12; exact BW.call _ (l2Less_as hL.out _))   | (go_at_call 21; exact BW.same _ (l11Find_as hF.out _ (HRD.out _) (by omega)))))))
          refine wpQuiet_nil ?_
          intro w1 hb1
          have hB1 := hid (hB.out.trans ((below1 wr _).trans (hb1.mono (by simp))|>.mono hB.out.size))
          have hG1 := hid (hG.out.below ((below1 wr _).trans (hb1.mono (by simp))) hGw)
          clear hb1 hG1
          go_wp2
          go_ret
          exact ⟨by rw [R.out]; rfl, hB1.out⟩
        | true =>
          have hS := hid hS
          by_cases hC : ck < t
          · have R := hid (ls_bad (id := id) (ck := ck) hx.out (fun h => by rw [okE_no (.inr (.inr (.inl hC)))] at h; cases h.1))
            have hC' : decide (ck < t) = true := by simpa using hC
            clear hhide
            go_wp2_with fail
            refine wp_region_below (by kernel_rfl) (by kernel_rfl) ?_
            repeat (go_big_quiet_step (((first   | (go_at_call 31; exact BW.same _ (l11Message_as hM.out _))   | (go_at_call 32; exact BW.call _ (StampValid_as hS.out _))   | (go_at_call 12; exact BW.call _ (l2Less_as hL.out _))   | (go_at_call 21; exact BW.same _ (l11Find_as hF.out _ (HRD.out _) (by omega)))))))
            refine wpQuiet_nil ?_
            intro w1 hb1
            have hB1 := hid (hB.out.trans ((below1 wr _).trans (hb1.mono (by simp))|>.mono hB.out.size))
            have hG1 := hid (hG.out.below ((below1 wr _).trans (hb1.mono (by simp))) hGw)
            clear hb1 hG1
            go_wp2
            go_ret
            exact ⟨by rw [R.out]; rfl, hB1.out⟩
          · have hC' : decide (ck < t) = false := by simpa using hC
            have hC2 : t ≤ ck := by omega
            have hC3 := hid hC2
            clear hC hC2
            rcases Nat.eq_zero_or_pos k with h0 | h0
            · have hK : decide (0 < k) = false := by simp; omega
              have hprev : Hid (∀ y, 0 < k → zs[k - 1]? = some y → ltS y.2.1 (t, g) = true) := hid (fun y h => by omega)
              have hnone : Hid (∀ y ∈ zs.take k, y.1 ≠ m) := hid (by rw [h0]; simp)
              have hF := hid (plI_miss hnone.out).2
              clear h0
              cases f with
              | false =>
                by_cases hg : g = id
                · have hgd : (g != id) = false := by simp [hg]
                  have hok := hid (okE_yes (id := id) (ck := ck) (f := false) hM.out hS.out hC3.out (.inr hg))
                  clear hg
                  clear hhide
                  go_wp2_with fail
                  refine wp_region_below (by kernel_rfl) (by kernel_rfl) ?_
                  repeat (go_big_quiet_step (((first   | (go_at_call 31; exact BW.same _ (l11Message_as hM.out _))   | (go_at_call 32; exact BW.call _ (StampValid_as hS.out _))   | (go_at_call 12; exact BW.call _ (l2Less_as hL.out _))   | (go_at_call 21; exact BW.same _ (l11Find_as hF.out _ (HRD.out _) (by omega)))))))
                  refine wpQuiet_nil ?_
                  intro w1 hb1
                  have hB1 := hid (hB.out.trans ((below1 wr _).trans (hb1.mono (by simp))|>.mono hB.out.size))
                  have hG1 := hid (hG.out.below ((below1 wr _).trans (hb1.mono (by simp))) hGw)
                  have F1 := (hb1.cell (p := ⟨wr.heap.size, 3, none⟩) (by simp)).trans ((Cs.new wr 40 #[.int .i64 m, .int .i64 t, .int .i64 g, .bool false]).cell 3)
                  have F2 := (hb1.cell (p := ⟨wr.heap.size, 2, none⟩) (by simp)).trans ((Cs.new wr 40 #[.int .i64 m, .int .i64 t, .int .i64 g, .bool false]).cell 2)
                  have F3 := hG1.out.cell 0
                  simp at F1 F2 F3
                  clear hb1
                  go_wp2
                  go_roundw
                  case rel => exact ⟨k + 1, by omega, by go_num, hid (ls_next hall.out hx.out hok.out hprev.out hnone.out), hG1, hB1⟩
                  case measure => simp [intOf]; omega
                · have hgd : (g != id) = true := by simp [hg]
                  have R := hid (ls_bad (id := id) (ck := ck) hx.out (fun h => by rw [okE_no (.inr (.inr (.inr ⟨rfl, hg⟩)))] at h; cases h.1))
                  clear hg
                  clear hhide
                  go_wp2_with fail
                  refine wp_region_below (by kernel_rfl) (by kernel_rfl) ?_
                  repeat (go_big_quiet_step (((first   | (go_at_call 31; exact BW.same _ (l11Message_as hM.out _))   | (go_at_call 32; exact BW.call _ (StampValid_as hS.out _))   | (go_at_call 12; exact BW.call _ (l2Less_as hL.out _))   | (go_at_call 21; exact BW.same _ (l11Find_as hF.out _ (HRD.out _) (by omega)))))))
                  refine wpQuiet_nil ?_
                  intro w1 hb1
                  have hB1 := hid (hB.out.trans ((below1 wr _).trans (hb1.mono (by simp))|>.mono hB.out.size))
                  have hG1 := hid (hG.out.below ((below1 wr _).trans (hb1.mono (by simp))) hGw)
                  have F1 := (hb1.cell (p := ⟨wr.heap.size, 3, none⟩) (by simp)).trans ((Cs.new wr 40 #[.int .i64 m, .int .i64 t, .int .i64 g, .bool false]).cell 3)
                  have F2 := (hb1.cell (p := ⟨wr.heap.size, 2, none⟩) (by simp)).trans ((Cs.new wr 40 #[.int .i64 m, .int .i64 t, .int .i64 g, .bool false]).cell 2)
                  have F3 := hG1.out.cell 0
                  simp at F1 F2 F3
                  clear hb1
                  go_wp2
                  go_ret
                  exact ⟨by rw [R.out]; rfl, hB1.out⟩
              | true =>
                have hok := hid (okE_yes (id := id) (ck := ck) (f := true) (g := g) hM.out hS.out hC3.out (.inl rfl))
                clear hhide
                go_wp2_with fail
                refine wp_region_below (by kernel_rfl) (by kernel_rfl) ?_
                repeat (go_big_quiet_step (((first   | (go_at_call 31; exact BW.same _ (l11Message_as hM.out _))   | (go_at_call 32; exact BW.call _ (StampValid_as hS.out _))   | (go_at_call 12; exact BW.call _ (l2Less_as hL.out _))   | (go_at_call 21; exact BW.same _ (l11Find_as hF.out _ (HRD.out _) (by omega)))))))
                refine wpQuiet_nil ?_
                intro w1 hb1
                have hB1 := hid (hB.out.trans ((below1 wr _).trans (hb1.mono (by simp))|>.mono hB.out.size))
                have hG1 := hid (hG.out.below ((below1 wr _).trans (hb1.mono (by simp))) hGw)
                have F1 := (hb1.cell (p := ⟨wr.heap.size, 3, none⟩) (by simp)).trans ((Cs.new wr 40 #[.int .i64 m, .int .i64 t, .int .i64 g, .bool true]).cell 3)
                simp at F1
                clear hb1
                go_wp2
                go_roundw
                case rel => exact ⟨k + 1, by omega, by go_num, hid (ls_next hall.out hx.out hok.out hprev.out hnone.out), hG1, hB1⟩
                case measure => simp [intOf]; omega
            · have hK : decide (0 < k) = true := by simp; omega
              have hk1 : k - 1 < n := by omega
              obtain ⟨b', off', m', t', g', f', e', hx', hb', d0, d1, d2, d3⟩ := (hr'.out.below hB.out).at_ hk1
              injection e' with e'
              injection e' with e1 e2
              subst e1; subst e2
              have D1 : ∀ x : BW (wr.alloc (.cells #[.int .i64 m, .int .i64 t, .int .i64 g, .bool f] 40)), x.wd.cell? ⟨b, off + (k - 1) * 4 + 1, none⟩ = some (.int .i64 t') := fun x => x.cell ((World.cell?_alloc_lt wr _ ⟨b, _, none⟩ hbw).trans d1)
              have D2 : ∀ x : BW (wr.alloc (.cells #[.int .i64 m, .int .i64 t, .int .i64 g, .bool f] 40)), x.wd.cell? ⟨b, off + (k - 1) * 4 + 2, none⟩ = some (.int .i64 g') := fun x => x.cell ((World.cell?_alloc_lt wr _ ⟨b, _, none⟩ hbw).trans d2)
              have j0 : (0 : Int) ≤ (k : Int) - 1 := by omega
              have j1 : (k : Int) - 1 < (n : Int) := by omega
              have j2 : ((k : Int) - 1).toNat = k - 1 := by omega
              have j3 : IntKind.i64.wrap ((k : Int) - 1) = (k : Int) - 1 := IntWalk.i64_in _ (by omega)
              clear d0 d1 d2 d3
              cases hL : lexB t' g' t g with
              | false =>
                have R := hid (ls_bad (id := id) (ck := ck) hx.out (fun h => by have := h.2.1 _ h0 hx'.out; rw [show ltS (t', g') (t, g) = false from hL] at this; cases this))
                have hL := hid hL
                clear hx'
                clear hhide
                go_wp2_with fail
                refine wp_region_below (by kernel_rfl) (by kernel_rfl) ?_
                repeat (go_big_quiet_step (((first   | (go_at_call 31; exact BW.same _ (l11Message_as hM.out _))   | (go_at_call 32; exact BW.call _ (StampValid_as hS.out _))   | (go_at_call 12; exact BW.call _ (l2Less_as hL.out _))   | (go_at_call 21; exact BW.same _ (l11Find_as hF.out _ (HRD.out _) (by omega)))))))
                refine wpQuiet_nil ?_
                intro w1 hb1
                have hB1 := hid (hB.out.trans ((below1 wr _).trans (hb1.mono (by simp))|>.mono hB.out.size))
                have hG1 := hid (hG.out.below ((below1 wr _).trans (hb1.mono (by simp))) hGw)
                clear hb1 hG1
                go_wp2
                go_ret
                exact ⟨by rw [R.out]; rfl, hB1.out⟩
              | true =>
                have hprev : Hid (∀ y, 0 < k → zs[k - 1]? = some y → ltS y.2.1 (t, g) = true) := hid (fun y _ hy => by rw [hx'.out] at hy; injection hy with hy; rw [← hy]; exact hL)
                have hL := hid hL
                clear hx'
                rcases pla_cases (zs.take k) m with ⟨j, y, _, p1, _, p2, p3, _⟩ | ⟨_, p1, p2⟩
                · have R := hid (ls_bad (id := id) (ck := ck) hx.out (fun h => h.2.2 y (List.mem_of_getElem? p2) p3))
                  have hF := hid p1
                  have hj0 : (0 : Int) ≤ (j : Int) := by omega
                  clear p1 p2 p3
                  clear hhide
                  go_wp2_with fail
                  refine wp_region_below (by kernel_rfl) (by kernel_rfl) ?_
                  repeat (go_big_quiet_step (((first   | (go_at_call 31; exact BW.same _ (l11Message_as hM.out _))   | (go_at_call 32; exact BW.call _ (StampValid_as hS.out _))   | (go_at_call 12; exact BW.call _ (l2Less_as hL.out _))   | (go_at_call 21; exact BW.same _ (l11Find_as hF.out _ (HRD.out _) (by omega)))))))
                  refine wpQuiet_nil ?_
                  intro w1 hb1
                  have hB1 := hid (hB.out.trans ((below1 wr _).trans (hb1.mono (by simp))|>.mono hB.out.size))
                  have hG1 := hid (hG.out.below ((below1 wr _).trans (hb1.mono (by simp))) hGw)
                  clear hb1 hG1
                  go_wp2
                  go_ret
                  exact ⟨by rw [R.out]; rfl, hB1.out⟩
                · have hnone := hid p2
                  have hF := hid p1
                  clear p1 p2
                  cases f with
                  | false =>
                    by_cases hg : g = id
                    · have hgd : (g != id) = false := by simp [hg]
                      have hok := hid (okE_yes (id := id) (ck := ck) (f := false) hM.out hS.out hC3.out (.inr hg))
                      clear hg
                      clear hhide
                      go_wp2_with fail
                      refine wp_region_below (by kernel_rfl) (by kernel_rfl) ?_
                      repeat (go_big_quiet_step (((first   | (go_at_call 31; exact BW.same _ (l11Message_as hM.out _))   | (go_at_call 32; exact BW.call _ (StampValid_as hS.out _))   | (go_at_call 12; exact BW.call _ (l2Less_as hL.out _))   | (go_at_call 21; exact BW.same _ (l11Find_as hF.out _ (HRD.out _) (by omega)))))))
                      refine wpQuiet_nil ?_
                      intro w1 hb1
                      have hB1 := hid (hB.out.trans ((below1 wr _).trans (hb1.mono (by simp))|>.mono hB.out.size))
                      have hG1 := hid (hG.out.below ((below1 wr _).trans (hb1.mono (by simp))) hGw)
                      have F1 := (hb1.cell (p := ⟨wr.heap.size, 3, none⟩) (by simp)).trans ((Cs.new wr 40 #[.int .i64 m, .int .i64 t, .int .i64 g, .bool false]).cell 3)
                      have F2 := (hb1.cell (p := ⟨wr.heap.size, 2, none⟩) (by simp)).trans ((Cs.new wr 40 #[.int .i64 m, .int .i64 t, .int .i64 g, .bool false]).cell 2)
                      have F3 := hG1.out.cell 0
                      simp at F1 F2 F3
                      clear hb1
                      go_wp2
                      go_roundw
                      case rel => exact ⟨k + 1, by omega, by go_num, hid (ls_next hall.out hx.out hok.out hprev.out hnone.out), hG1, hB1⟩
                      case measure => simp [intOf]; omega
                    · have hgd : (g != id) = true := by simp [hg]
                      have R := hid (ls_bad (id := id) (ck := ck) hx.out (fun h => by rw [okE_no (.inr (.inr (.inr ⟨rfl, hg⟩)))] at h; cases h.1))
                      clear hg
                      clear hhide
                      go_wp2_with fail
                      refine wp_region_below (by kernel_rfl) (by kernel_rfl) ?_
                      repeat (go_big_quiet_step (((first   | (go_at_call 31; exact BW.same _ (l11Message_as hM.out _))   | (go_at_call 32; exact BW.call _ (StampValid_as hS.out _))   | (go_at_call 12; exact BW.call _ (l2Less_as hL.out _))   | (go_at_call 21; exact BW.same _ (l11Find_as hF.out _ (HRD.out _) (by omega)))))))
                      refine wpQuiet_nil ?_
                      intro w1 hb1
                      have hB1 := hid (hB.out.trans ((below1 wr _).trans (hb1.mono (by simp))|>.mono hB.out.size))
                      have hG1 := hid (hG.out.below ((below1 wr _).trans (hb1.mono (by simp))) hGw)
                      have F1 := (hb1.cell (p := ⟨wr.heap.size, 3, none⟩) (by simp)).trans ((Cs.new wr 40 #[.int .i64 m, .int .i64 t, .int .i64 g, .bool false]).cell 3)
                      have F2 := (hb1.cell (p := ⟨wr.heap.size, 2, none⟩) (by simp)).trans ((Cs.new wr 40 #[.int .i64 m, .int .i64 t, .int .i64 g, .bool false]).cell 2)
                      have F3 := hG1.out.cell 0
                      simp at F1 F2 F3
                      clear hb1
                      go_wp2
                      go_ret
                      exact ⟨by rw [R.out]; rfl, hB1.out⟩
                  | true =>
                    have hok := hid (okE_yes (id := id) (ck := ck) (f := true) (g := g) hM.out hS.out hC3.out (.inl rfl))
                    clear hhide
                    go_wp2_with fail
                    refine wp_region_below (by kernel_rfl) (by kernel_rfl) ?_
                    repeat (go_big_quiet_step (((first   | (go_at_call 31; exact BW.same _ (l11Message_as hM.out _))   | (go_at_call 32; exact BW.call _ (StampValid_as hS.out _))   | (go_at_call 12; exact BW.call _ (l2Less_as hL.out _))   | (go_at_call 21; exact BW.same _ (l11Find_as hF.out _ (HRD.out _) (by omega)))))))
                    refine wpQuiet_nil ?_
                    intro w1 hb1
                    have hB1 := hid (hB.out.trans ((below1 wr _).trans (hb1.mono (by simp))|>.mono hB.out.size))
                    have hG1 := hid (hG.out.below ((below1 wr _).trans (hb1.mono (by simp))) hGw)
                    have F1 := (hb1.cell (p := ⟨wr.heap.size, 3, none⟩) (by simp)).trans ((Cs.new wr 40 #[.int .i64 m, .int .i64 t, .int .i64 g, .bool true]).cell 3)
                    simp at F1
                    clear hb1
                    go_wp2
                    go_roundw
                    case rel => exact ⟨k + 1, by omega, by go_num, hid (ls_next hall.out hx.out hok.out hprev.out hnone.out), hG1, hB1⟩
                    case measure => simp [intOf]; omega
    · have R := hid (show lsB id ck zs = true from lsB_true.2 (by
        have := hall.out
        rw [List.take_of_length_le (by rw [hl'.out]; omega)] at this
        exact this))
      go_wp2
      go_ret
      exact ⟨by rw [R.out]; rfl, hB.out⟩

end Go.Proofs.Ytbgkinaoelicnaa
