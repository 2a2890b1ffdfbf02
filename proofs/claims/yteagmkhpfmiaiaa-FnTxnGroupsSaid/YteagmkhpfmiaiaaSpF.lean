/-
  The program's StorePart, StoreJoin. No condition but lengths below 2^40.
-/
import Derived.Test.YteagmkhpfmiaiaaSpA
import Derived.Test.YteagmkhpfmiaiaaSpC
namespace Go.Proofs.Yteagmkhpfmiaiaa
open Go.RowKit
set_option linter.unusedVariables false
set_option linter.unusedSimpArgs false

set_option maxHeartbeats 400000 in
theorem groupOfKey_any (k : Int) (w : World) (h0 : 0 ≤ k) (h1 : k ≤ 1000) : Calls Try.prog 55 #[.int .i64 k] w fun e w' => e = .returned (.int .i64 (k % 5)) ∧ w = w' := by
  go_enter Try.func55, Try.ntmps55
  go_wp2
  go_ret
  exact ⟨rfl, rfl⟩

set_option maxRecDepth 100000 in
set_option maxHeartbeats 1000000 in
theorem keysOfGroup_any (g : Int) (w : World) : Calls Try.prog 62 #[.int .i64 g] w (NewI w ((grps 15).filter fun k => decide (k % 5 = g))) := by
  go_enter Try.func62, Try.ntmps62
  go_wp2
  go_loopw [3, 6] (fun o i wr => ∃ k : Nat, k ≤ 15 ∧ i = .int .i64 k ∧ OwI wr w.heap.size o ((grps k).filter fun k => decide (k % 5 = g)) ∧ Hid (Below w.heap.size w wr)) (fun _ i _ => 15 - (intOf i).toNat)
  case atStart => exact ⟨0, by omega, rfl, OwI.empty_lit w (Nat.le_refl _), hid (below1 w _)⟩
  case round =>
    obtain ⟨k, hk, rfl, hown, hbe⟩ := hrel
    have hsz := hbe.out.size
    have hll : ((grps k).filter fun k => decide (k % 5 = g)).length < 1099511627776 := by have := grps_len (fun i => decide (i % 5 = g)) k; omega
    by_cases hlt : k < 15
    · have hlI : (k : Int) < 15 := by omega
      have hk0 : (0 : Int) ≤ (k : Int) := by omega
      have hk1 : (k : Int) ≤ 1000 := by omega
      by_cases e : (k : Int) % 5 = g
      · have hb : ((k : Int) % 5 == g) = true := by simp [e]
        have hN := hid (grps_hit (p := fun i => decide (i % 5 = g)) (k := k) (by simpa using e))
        clear e
        go_wp2_with (first
          | (go_at_call 55; (with_reducible refine (groupOfKey_any _ _ hk0 hk1).mono ?_); rintro e w' ⟨rfl, rfl⟩)
          | (at_builtin; refine wpList_app1 rfl (.tmp 13) (.tmp 15) rfl w.heap.size k _ _ rfl rfl hown hsz hll ?_; intro v' w1 hown' hbel'))
        go_roundw
        case rel => exact ⟨k + 1, by omega, by go_num, by rw [hN.out]; exact hown', hid (hbe.out.trans hbel')⟩
        case measure => simp [intOf]; omega
      · have hb : ((k : Int) % 5 == g) = false := by rw [beq_eq_false_iff_ne]; exact e
        have hN := hid (grps_miss (p := fun i => decide (i % 5 = g)) (k := k) (by simpa using e))
        clear e
        go_wp2_with (go_at_call 55; (with_reducible refine (groupOfKey_any _ _ hk0 hk1).mono ?_); rintro e w' ⟨rfl, rfl⟩)
        go_roundw
        case rel => exact ⟨k + 1, by omega, by go_num, by rw [hN.out]; exact hown, hbe⟩
        case measure => simp [intOf]; omega
    · obtain rfl : k = 15 := by omega
      obtain ⟨L, hL⟩ : ∃ L, ((grps 15).filter fun k => decide (k % 5 = g)) = L := ⟨_, rfl⟩
      have ho : OwI wr w.heap.size u3 L := by rw [← hL]; exact hown
      obtain ⟨A2, c2, rfl, -⟩ := ho.form
      clear hown hll
      go_wp2
      go_ret
      exact ⟨_, rfl, by rw [hL]; exact ho, hbe.out⟩

set_option maxRecDepth 100000 in
set_option maxHeartbeats 4000000 in
theorem StorePart_impl {A : Option Addr} {n c : Nat} {zs : List Int} (g : Int) (w : World) (hs : RdI w w.heap.size A n zs) (hn : n < 1099511627776) :
    Calls Try.prog 29 #[.slice A n c, .int .i64 g] w (NewI w (partR zs g)) := by
  have hs' := hid hs
  have hls := hid hs.len
  clear hs
  go_enter Try.func29, Try.ntmps29
  go_wp2_with fail
  refine (StoreValid_impl _ hs'.out hn).mono ?_
  rintro e w1 ⟨rfl, hb1⟩
  have hs1 := hid (hs'.out.stp hb1)
  have hB1 := hid hb1
  clear hb1
  cases hv : vst zs with
  | false =>
    have R := hid (partR_no1 (g := g) hv)
    clear hv
    go_wp2_with (go_at_call 61; (with_reducible refine (groupExists_any _ _).mono ?_); rintro e w' ⟨rfl, rfl⟩)
    go_ret
    exact ⟨_, rfl, by rw [R.out]; exact OwI.emptyS rfl hB1.out.size, hB1.out.trans ((below1 _ _).mono hB1.out.size)⟩
  | true =>
    cases hg : grB g with
    | false =>
      have hg' := hid hg
      have R := hid (partR_no2 (zs := zs) hg)
      clear hv hg
      go_wp2_with (go_at_call 61; (with_reducible refine (groupExists_any _ _).mono ?_); rw [hg'.out]; rintro e w' ⟨rfl, rfl⟩)
      go_ret
      exact ⟨_, rfl, by rw [R.out]; exact OwI.emptyS rfl hB1.out.size, hB1.out.trans ((below1 _ _).mono hB1.out.size)⟩
    | true =>
      have hg' := hid hg
      have R := hid (partR_yes hv hg)
      have h15 : n = 15 := by rw [← hls.out]; exact vst_len hv
      subst h15
      obtain ⟨g0, g4⟩ := grB_true.1 hg
      have hkl := hid (keys_of g0 g4)
      clear hv hg hn
      go_wp2_with (go_at_call 61; (with_reducible refine (groupExists_any _ _).mono ?_); rw [hg'.out]; rintro e w' ⟨rfl, rfl⟩)
      have hB2 := hid (hB1.out.trans ((below1 w1 (.cells #[] 3)).mono hB1.out.size))
      have ho2 := hid (OwI.empty_lit w1 hB1.out.size)
      obtain ⟨u1, hu1⟩ : ∃ W, w1.alloc (.cells #[] 3) = W := ⟨_, rfl⟩
      rw [hu1] at hB2 ho2
      try rw [hu1]
      replace hu1 := hid hu1
      go_wp2_with fail
      refine (keysOfGroup_any g _).mono ?_
      rw [hkl.out]
      rintro e w3 ⟨v3, rfl, ho3, hb3⟩
      obtain ⟨A3, c3, rfl, hr3⟩ := ho3.cut (show ([g, g + 5, g + 10] : List Int).length = 3 from rfl)
      have hr3' := hid hr3
      have hB3 := hid (hB2.out.trans (hb3.mono hB2.out.size))
      have ho4 := hid (ho2.out.stepS hb3)
      have hne3 := hid (show ∀ ad, A3 = some ad → (Value.slice (some ⟨w1.heap.size, 0, none⟩) 0 0).ownBlock ≠ some ad.block from fun ad e h => by
        subst e
        have h2 := (ho3.lt ad.block (by
          rcases ho3.2 with ⟨_, h0⟩ | ⟨g, cap, cur, e, _⟩
          · simp at h0
          · injection e with e1; injection e1 with e1; subst e1; rfl)).1
        have h3 := (ho2.out.lt w1.heap.size rfl).2
        injection h with h
        simp only at h
        omega)
      rw [hkl.out] at R
      have hb3z : u1.heap.size ≤ w3.heap.size := hb3.size
      clear ho3 hr3 hb3 hkl
      go_wp2
      go_loopw [5, 21] (fun o i wr => ∃ k : Nat, k ≤ 3 ∧ i = .int .i64 k ∧ OwI wr w.heap.size o ((([g, g + 5, g + 10] : List Int).take k).map (atS zs)) ∧ Hid (Below w.heap.size w wr) ∧ Hid (RdI wr w3.heap.size A3 3 [g, g + 5, g + 10]) ∧ Hid (∀ ad, A3 = some ad → o.ownBlock ≠ some ad.block) ∧ Hid (w3.heap.size ≤ wr.heap.size)) (fun _ i _ => 3 - (intOf i).toNat)
      case atStart => exact ⟨0, by omega, rfl, ho4.out, hB3, hr3', hne3, hid (Nat.le_refl _)⟩
      case round =>
        obtain ⟨k, hk, rfl, hown, hbe, hrk, hne, hzl⟩ := hrel
        have hsz := hbe.out.size
        have hzl' := hzl.out
        have hll : ((([g, g + 5, g + 10] : List Int).take k).map (atS zs)).length < 1099511627775 := by rw [List.length_map]; have := List.length_take_le k ([g, g + 5, g + 10] : List Int); omega
        by_cases hlt : k < 3
        · obtain ⟨a3, z, e3, hz, hc⟩ := RdI.at' hrk.out hlt
          have hzm : 0 ≤ z ∧ z ≤ 14 := by
            have : k = 0 ∨ k = 1 ∨ k = 2 := by omega
            have hz' := hz.out
            rcases this with rfl | rfl | rfl <;> simp at hz' <;> omega
          obtain ⟨z0, z1⟩ := hzm
          obtain ⟨q, rfl⟩ := Int.eq_ofNat_of_zero_le z0
          have hq : q < 15 := by omega
          have hqi : (q : Int) < 15 := by omega
          obtain ⟨ad, y, rfl, hy, hcs⟩ := RdI.at' (hs'.out.below hbe.out) hq
          have hN := hid (show (([g, g + 5, g + 10] : List Int).take (k + 1)).map (atS zs) = (([g, g + 5, g + 10] : List Int).take k).map (atS zs) ++ [y] by
            rw [take_snocI (l := [g, g + 5, g + 10]) hlt hz.out, List.map_append, ← hy.out]; simp [atS])
          subst e3
          go_wp2_with (at_builtin; refine wpList_app1G rfl (.tmp 25) (.tmp 30) rfl w.heap.size y _ _ rfl rfl hown hsz hll ?_; intro v' w5 hown' hg5 hv5)
          have hb5 := hid (hbe.out.grown hg5 hsz (fun k hk => (hown.lt k hk).1))
          have hr5 := hid (hrk.out.grownR hg5 hzl' (fun ad e => hne.out ad e))
          have hz5 := hid (Nat.le_trans hzl' hg5.size)
          have hne5 := hid (show ∀ ad, some a3 = some ad → v'.ownBlock ≠ some ad.block from fun ad e h => by
            rcases hv5 with h2 | ⟨gg, h2, h3⟩
            · exact hne.out ad e (h2.symm.trans h)
            · rw [h2] at h
              obtain ⟨a4, e4, hb4, _⟩ := hrk.out.2 (by omega)
              injection e with e; injection e4 with e4; injection h with h
              subst e; subst e4
              omega)
          clear hv5 hg5
          go_roundw
          case rel => exact ⟨k + 1, by omega, by go_num, by rw [hN.out]; exact hown', hb5, hr5, hne5, hz5⟩
          case measure => simp [intOf]; omega
        · obtain rfl : k = 3 := by omega
          obtain ⟨L, hL⟩ : ∃ L, ([g, g + 5, g + 10] : List Int).map (atS zs) = L := ⟨_, rfl⟩
          have ho : OwI wr w.heap.size u5 L := by rw [← hL]; exact hown
          rw [hL] at R
          replace hL := hid hL
          obtain ⟨A9, c9, rfl, -⟩ := ho.form
          clear hown hll
          go_wp2
          go_ret
          exact ⟨_, rfl, by rw [R.out]; exact ho, hbe.out⟩

/-- numbers that the machine has -/
def WfP (pss : List (List Int)) : Prop := ∀ g i : Nat, (Lit.int .i64 ((pss.getD g []).getD i 0)).wf = true

set_option maxRecDepth 100000 in
set_option maxHeartbeats 8000000 in
theorem StoreJoin_impl {A : Option Addr} {n c : Nat} {pss : List (List Int)} (w : World) (hs : RdL w w.heap.size A n pss) (hn : n < 1099511627776) (hsh : Short pss) (hwf : WfP pss) :
    Calls Try.prog 38 #[.slice A n c] w (NewI w (joinR pss)) := by
  have hmm := @run_makeMap Try.prog
  have hs' := hid hs
  have hln := hid hs.1
  have hsh' := hid hsh
  have hwf' := hid hwf
  clear hs hsh hwf
  by_cases h5 : n = 5
  · subst h5
    have hM0 := hid (MapF.made w)
    have hb0 := hid (below1 w (.map #[] 0))
    obtain ⟨u0, hu0⟩ : ∃ W, w.alloc (.map #[] 0) = W := ⟨_, rfl⟩
    rw [hu0] at hM0 hb0
    obtain ⟨b, hb⟩ : ∃ b, w.heap.size = b := ⟨_, rfl⟩
    rw [hb] at hM0
    replace hu0 := hid hu0
    go_enter Try.func38, Try.ntmps38
    go_upto_region 4 with (fail)
    try rw [hu0.out]
    try rw [hb]
    replace hb := hid hb
    go_wp2
    go_loopw [17] (fun i wr => ∃ (g : Nat), g ≤ 5 ∧ i = .int .i64 g ∧ Hid (MapF wr b (3 * g) (half pss g 0)) ∧ Hid (Below w.heap.size w wr) ∧ Hid (∀ j, j < g → (pss.getD j []).length = 3)) (fun i _ => 5 - (intOf i).toNat)
    case atStart => exact ⟨0, by omega, rfl, hid (hM0.out.congr (fun k h0 h1 => by unfold half; rw [if_neg (by omega)])), hb0, hid (fun j h => by omega)⟩
    case round =>
      obtain ⟨g, hg, rfl, hM, hbe, hall⟩ := hrel
      have hsr := hid (hs'.out.below hbe.out)
      by_cases hlt : g < 5
      · have hltI : (g : Int) < 5 := by omega
        obtain ⟨ad, Ai, m, ci, zs, rfl, hzs, hm, hc, hri⟩ := hsr.out.at' hlt
        have hri' := hid hri
        have hkl := hid (keys_of (g := (g : Int)) (by omega) (by omega))
        have hbl := hM.out.lt
        clear hri
        go_wp2_with fail
        refine (keysOfGroup_any g _).mono ?_
        rw [hkl.out]
        rintro e w3 ⟨v3, rfl, ho3, hb3⟩
        obtain ⟨A3, c3, rfl, hr3⟩ := ho3.cut (show ([(g : Int), (g : Int) + 5, (g : Int) + 10] : List Int).length = 3 from rfl)
        have hr3' := hid hr3
        have hM3 := hid (hM.out.step hb3)
        have hB3 := hid (hbe.out.trans (hb3.mono hbe.out.size))
        have hri3 := hid (hri'.out.below (hb3.mono hbe.out.size))
        have hne3 := hid (show ∀ ad, A3 = some ad → some b ≠ some ad.block from fun ad e h => by
          subst e
          have h2 := (ho3.lt ad.block (by
            rcases ho3.2 with ⟨_, h0⟩ | ⟨g, cap, cur, e, _⟩
            · simp at h0
            · injection e with e1; injection e1 with e1; subst e1; rfl)).1
          injection h with h
          omega)
        have hzb : w.heap.size ≤ b := by rw [hb.out]; exact Nat.le_refl _
        clear ho3 hr3 hb3 hc
        by_cases hm3 : m = 3
        · subst hm3
          go_wp2
          go_loopw [32] (fun i wr => ∃ (k : Nat), k ≤ 3 ∧ i = .int .i64 k ∧ Hid (MapF wr b (3 * g + k) (half pss g k)) ∧ Hid (Below w.heap.size w wr) ∧ Hid (RdI wr w3.heap.size A3 3 [(g : Int), (g : Int) + 5, (g : Int) + 10]) ∧ Hid (RdI wr w.heap.size Ai 3 zs) ∧ Hid (w3.heap.size ≤ wr.heap.size)) (fun i _ => 3 - (intOf i).toNat)
          case atStart => exact ⟨0, by omega, rfl, hM3, hB3, hr3', hri3, hid (Nat.le_refl _)⟩
          case round =>
            obtain ⟨k, hk, rfl, hMk, hbk, hrk, hrp, hzk⟩ := hrel
            have hzk' := hzk.out
            by_cases hlk : k < 3
            · obtain ⟨a3, z, e3, hz, hc3⟩ := RdI.at' hrk.out hlk
              have hze : z = (k : Int) * 5 + g := by
                have : k = 0 ∨ k = 1 ∨ k = 2 := by omega
                have hz' := hz.out
                rcases this with rfl | rfl | rfl <;> simp at hz' <;> omega
              subst hze
              obtain ⟨a5, y, e5, hy, hc5⟩ := RdI.at' hrp.out hlk
              have hwy : (Lit.int .i64 y).wf = true := by have := hwf'.out g k; rw [hzs.out, hy.out] at this; exact this
              have hz0 : (0 : Int) ≤ (k : Int) * 5 + g := by omega
              have hz1 : (k : Int) * 5 + g ≤ 14 := by omega
              have hnk : 3 * g + k < 1099511627776 := by omega
              have hN := hid (half_put hlt hlk hzs.out hy.out)
              subst e3; subst e5
              go_wp2_with (at_mapUpdate; refine wpList_putF rfl (.tmp 37) (.tmp 38) (.tmp 42) rfl (k := (k : Int) * 5 + g) (z := y) rfl rfl rfl hMk.out hz0 hz1 hnk hwy ?_; intro w5 hM5 hg5)
              have hM6 := hid (show MapF w5 b (3 * g + (k + 1)) (half pss g (k + 1)) from hM5.congr hN.out)
              have hb5 := hid (hbk.out.grown hg5 hbk.out.size (fun k hk => by injection hk with hk; omega))
              have hr5 := hid (hrk.out.grownR hg5 hzk' (fun ad e => hne3.out ad e))
              have hp5 := hid (Reads.grown hrp.out hg5 hbk.out.size (fun k hk => by injection hk with hk; omega))
              have hz5 := hid (Nat.le_trans hzk' hg5.size)
              clear hM5 hg5
              go_roundw
              case rel => exact ⟨k + 1, by omega, by go_num, hM6, hb5, hr5, hp5, hz5⟩
              case measure => simp [intOf]; omega
            · obtain rfl : k = 3 := by omega
              have hM6 := hid (show MapF wr b (3 * (g + 1)) (half pss (g + 1) 0) from (hMk.out.congr (half_nextF pss g)).mono (by omega))
              go_wp2
              go_roundw
              case rel => exact ⟨g + 1, by omega, by go_num, hM6, hbk, hid (fun j hj => by
                by_cases e : j = g
                · subst e; rw [hzs.out, hm.out]
                · exact hall.out j (by omega))⟩
              case measure => simp [intOf]; omega
        · have hbn : ((m : Int) != 3) = true := by simp; omega
          have R := hid (joinR_three (by rw [hln.out]; exact hlt) hzs.out (by rw [hm.out]; exact hm3))
          clear hm3
          go_wp2
          go_ret
          exact ⟨_, rfl, by rw [R.out]; exact OwI.emptyS rfl hB3.out.size, hB3.out.trans ((below1 _ _).mono hB3.out.size)⟩
      · obtain rfl : g = 5 := by omega
        have hsp := hid (shapeP_of hln.out (fun g hg => hall.out g hg))
        have hMf := hid (show MapF wr b 15 (valP pss) from hM.out.congr (half_fullF pss))
        go_wp2_with fail
        refine (stateOf_any _ hMf.out).mono ?_
        rintro e w6 ⟨v, rfl, ho6, hb6⟩
        have ho6' := hid ho6
        have hb6' := hid (hbe.out.trans (hb6.mono hbe.out.size))
        obtain ⟨A9, c9, rfl, hr9⟩ := ho6.cut (tab_len _)
        have hr9' := hid hr9
        have hz6 : w.heap.size ≤ wr.heap.size := hbe.out.size
        clear ho6 hb6 hr9
        go_wp2_with fail
        refine (StoreValid_impl _ hr9'.out (by decide)).mono ?_
        rintro e w7 ⟨rfl, hb7⟩
        have ho7 := hid (ho6'.out.stepS hb7)
        have hb7' := hid (hb6'.out.trans (hb7.mono hb6'.out.size))
        clear hb7
        cases hv : vst (tab (valP pss)) with
        | true =>
          have R := hid (show joinR pss = tab (valP pss) by rw [joinR_fin hsp.out, hv]; rfl)
          clear hv
          go_wp2
          go_ret
          exact ⟨_, rfl, by rw [R.out]; exact ho7.out.more hz6, hb7'.out⟩
        | false =>
          have R := hid (show joinR pss = [] by rw [joinR_fin hsp.out, hv]; rfl)
          clear hv
          go_wp2
          go_ret
          exact ⟨_, rfl, by rw [R.out]; exact OwI.emptyS rfl hb7'.out.size, hb7'.out.trans ((below1 _ _).mono hb7'.out.size)⟩
  · have hbn : ((n : Int) != 5) = true := by simp; omega
    have R := hid (joinR_len (by rw [hln.out]; exact h5))
    clear h5
    go_enter Try.func38, Try.ntmps38
    go_wp2
    go_ret
    exact ⟨_, rfl, by rw [R.out]; exact OwI.empty_lit w (Nat.le_refl _), below1 w _⟩
end Go.Proofs.Yteagmkhpfmiaiaa
