/-
  The library's down over the program's heap. No condition but lengths below 2^40.
-/
import Derived.Test.YtbnmeedmeikepaaGmL
namespace Go.Proofs.Ytbnmeedmeikepaa
open Go.RowKit
set_option linter.unusedVariables false

def DownPost (lo hb g N c n : Nat) (zs : List En) (w : World) (e : Ending) (w' : World) : Prop :=
  ∃ (ys : List En) (r : Bool), e = .returned (.bool r) ∧ HMs w' lo hb g N c ys ∧ ys.Perm zs ∧ Hp ys n ∧ (∀ k, n ≤ k → atE ys k = atE zs k) ∧ (r = false → ys = zs) ∧ Kp (fun k => k = g) w w'

set_option maxRecDepth 100000 in
set_option maxHeartbeats 4000000 in
theorem down_any {lo hb g N c i0 n : Nat} {zs : List En} (w : World) (H : HMs w lo hb g N c zs) (hN : N < 1099511627776) (hn : n ≤ N) (hi0 : i0 ≤ N) (hx : HpX zs n i0) :
    Calls Try.prog 56 #[.iface 58 (.pointer (some ⟨hb, 0, none⟩)), .int .i64 i0, .int .i64 n] w (DownPost lo hb g N c n zs w) := by
  have H' := hid H
  have hx' := hid hx
  clear H hx
  go_enter Try.func56, Try.ntmps56
  go_wp2
  go_loopw [7] (fun i wr => ∃ (k : Nat) (ys : List En), k ≤ N ∧ i0 ≤ k ∧ i = .int .i64 k ∧ Hid (HMs wr lo hb g N c ys) ∧ Hid (ys.Perm zs) ∧ Hid (HpX ys n k) ∧ Hid (∀ j, n ≤ j → atE ys j = atE zs j) ∧ Hid (k = i0 → ys = zs) ∧ Hid (Kp (fun k => k = g) w wr)) (fun i _ => n - (intOf i).toNat)
  case atStart => exact ⟨i0, zs, hi0, Nat.le_refl _, rfl, H', hid (List.Perm.refl _), hx', hid (fun _ _ => rfl), hid (fun _ => rfl), hid (Kp.refl _ _)⟩
  case round =>
    obtain ⟨k, ys, hk, hk0, rfl, hH, hp, hX, ht, hs, hK⟩ := hrel
    have hc := hH.out.1.cell
    have mL := meth_Less hc
    have mS := meth_Swap hc
    have hlen := hid hH.out.2.2.1
    by_cases h1 : 2 * k + 1 < n
    · by_cases h2 : 2 * k + 2 < n
      · cases hL0 : ltS (keyE ys (2 * k + 2)) (keyE ys (2 * k + 1)) with
        | true =>
          have hmin : Hid (∀ c, c < n → (c = 2 * k + 1 ∨ c = 2 * k + 2) → ltS (keyE ys c) (keyE ys (2 * k + 2)) = false) := hid (fun c _ h => by
            rcases h with h | h
            · rw [h]; exact ltS_asymm hL0
            · rw [h]; exact ltS_irr _)
          have hL0 := hid hL0
          go_wp2_with fail
          refine (Less_at hL0.out _ hH.out.rd (by omega) (i := 2 * k + 2) (j := 2 * k + 1) (by omega) (by omega) (by omega) (by omega)).mono ?_
          rintro e w1 ⟨rfl, hb1⟩
          have hHa := hid (hH.out.below hb1)
          have hKa := hid (hK.out.below_ hb1)
          have mLa := meth_Less hHa.out.1.cell
          clear hb1
          cases hL : ltS (keyE ys (2 * k + 2)) (keyE ys k) with
          | false =>
            have hfin : Hid (Hp ys n) := hid (hX.out.stop (fun c h2 h3 => ltS_ntrans (hmin.out c h2 h3) hL))
            have hL := hid hL
            go_wp2_with fail
            refine (Less_at hL.out _ hHa.out.rd (by omega) (i := (2 * k + 2)) (j := k) (by omega) (by omega) (by omega) rfl).mono ?_
            rintro e w2 ⟨rfl, hb2⟩
            have hH2 := hid (hHa.out.below hb2)
            have hK2 := hid (hKa.out.below_ hb2)
            clear hb2
            by_cases he : i0 < k
            · go_wp2
              go_ret
              exact ⟨ys, true, rfl, hH2.out, hp.out, hfin.out, ht.out, (fun h => by cases h), hK2.out⟩
            · go_wp2
              go_ret
              exact ⟨ys, false, rfl, hH2.out, hp.out, hfin.out, ht.out, (fun _ => hs.out (by omega)), hK2.out⟩
          | true =>
            have hdown : Hid (HpX (swE ys k (2 * k + 2)) n (2 * k + 2)) := hid (hX.out.down (by rw [hlen.out]; omega) (by omega) (by omega) hL hmin.out)
            have hperm : Hid ((swE ys k (2 * k + 2)).Perm zs) := hid ((swE_perm (by rw [hlen.out]; omega) (by rw [hlen.out]; omega)).trans hp.out)
            have htail : Hid (∀ j, n ≤ j → atE (swE ys k (2 * k + 2)) j = atE zs j) := hid (fun j hj => by
              rw [swE_at (by rw [hlen.out]; omega) (by rw [hlen.out]; omega), if_neg (by omega), if_neg (by omega)]
              exact ht.out j hj)
            have hL := hid hL
            go_wp2_with fail
            refine (Less_at hL.out _ hHa.out.rd (by omega) (i := (2 * k + 2)) (j := k) (by omega) (by omega) (by omega) rfl).mono ?_
            rintro e w2 ⟨rfl, hb2⟩
            have hH2 := hid (hHa.out.below hb2)
            have hK2 := hid (hKa.out.below_ hb2)
            have mS2 := meth_Swap hH2.out.1.cell
            clear hb2
            go_wp2_with fail
            refine (Swap_at _ hH2.out.2.1 hlen.out (by omega) (i := k) (j := (2 * k + 2)) (by omega) (by omega) (by omega) rfl (by omega)).mono ?_
            rintro e w3 ⟨rfl, ho3, hg3⟩
            have hH3 := hid (hH2.out.put ho3 (by rw [swE_len]) hg3)
            have hK3 := hid (hK2.out.grown hg3 (fun i hi => .inr (by injection hi with hi; exact hi.symm)))
            clear ho3 hg3
            go_wp2
            go_roundw
            case rel => exact ⟨(2 * k + 2), swE ys k (2 * k + 2), by omega, by omega, by first | rfl | go_num, hH3, hperm, hdown, htail, hid (fun h => by omega), hK3⟩
            case measure => simp [intOf]; omega
        | false =>
          have hmin : Hid (∀ c, c < n → (c = 2 * k + 1 ∨ c = 2 * k + 2) → ltS (keyE ys c) (keyE ys (2 * k + 1)) = false) := hid (fun c _ h => by
            rcases h with h | h
            · rw [h]; exact ltS_irr _
            · rw [h]; exact hL0)
          have hL0 := hid hL0
          go_wp2_with fail
          refine (Less_at hL0.out _ hH.out.rd (by omega) (i := 2 * k + 2) (j := 2 * k + 1) (by omega) (by omega) (by omega) (by omega)).mono ?_
          rintro e w1 ⟨rfl, hb1⟩
          have hHa := hid (hH.out.below hb1)
          have hKa := hid (hK.out.below_ hb1)
          have mLa := meth_Less hHa.out.1.cell
          clear hb1
          cases hL : ltS (keyE ys (2 * k + 1)) (keyE ys k) with
          | false =>
            have hfin : Hid (Hp ys n) := hid (hX.out.stop (fun c h2 h3 => ltS_ntrans (hmin.out c h2 h3) hL))
            have hL := hid hL
            go_wp2_with fail
            refine (Less_at hL.out _ hHa.out.rd (by omega) (i := (2 * k + 1)) (j := k) (by omega) (by omega) (by omega) rfl).mono ?_
            rintro e w2 ⟨rfl, hb2⟩
            have hH2 := hid (hHa.out.below hb2)
            have hK2 := hid (hKa.out.below_ hb2)
            clear hb2
            by_cases he : i0 < k
            · go_wp2
              go_ret
              exact ⟨ys, true, rfl, hH2.out, hp.out, hfin.out, ht.out, (fun h => by cases h), hK2.out⟩
            · go_wp2
              go_ret
              exact ⟨ys, false, rfl, hH2.out, hp.out, hfin.out, ht.out, (fun _ => hs.out (by omega)), hK2.out⟩
          | true =>
            have hdown : Hid (HpX (swE ys k (2 * k + 1)) n (2 * k + 1)) := hid (hX.out.down (by rw [hlen.out]; omega) (by omega) (by omega) hL hmin.out)
            have hperm : Hid ((swE ys k (2 * k + 1)).Perm zs) := hid ((swE_perm (by rw [hlen.out]; omega) (by rw [hlen.out]; omega)).trans hp.out)
            have htail : Hid (∀ j, n ≤ j → atE (swE ys k (2 * k + 1)) j = atE zs j) := hid (fun j hj => by
              rw [swE_at (by rw [hlen.out]; omega) (by rw [hlen.out]; omega), if_neg (by omega), if_neg (by omega)]
              exact ht.out j hj)
            have hL := hid hL
            go_wp2_with fail
            refine (Less_at hL.out _ hHa.out.rd (by omega) (i := (2 * k + 1)) (j := k) (by omega) (by omega) (by omega) rfl).mono ?_
            rintro e w2 ⟨rfl, hb2⟩
            have hH2 := hid (hHa.out.below hb2)
            have hK2 := hid (hKa.out.below_ hb2)
            have mS2 := meth_Swap hH2.out.1.cell
            clear hb2
            go_wp2_with fail
            refine (Swap_at _ hH2.out.2.1 hlen.out (by omega) (i := k) (j := (2 * k + 1)) (by omega) (by omega) (by omega) rfl (by omega)).mono ?_
            rintro e w3 ⟨rfl, ho3, hg3⟩
            have hH3 := hid (hH2.out.put ho3 (by rw [swE_len]) hg3)
            have hK3 := hid (hK2.out.grown hg3 (fun i hi => .inr (by injection hi with hi; exact hi.symm)))
            clear ho3 hg3
            go_wp2
            go_roundw
            case rel => exact ⟨(2 * k + 1), swE ys k (2 * k + 1), by omega, by omega, by first | rfl | go_num, hH3, hperm, hdown, htail, hid (fun h => by omega), hK3⟩
            case measure => simp [intOf]; omega
      · have hmin : Hid (∀ c, c < n → (c = 2 * k + 1 ∨ c = 2 * k + 2) → ltS (keyE ys c) (keyE ys (2 * k + 1)) = false) := hid (fun c h0 h => by
          rcases h with h | h
          · rw [h]; exact ltS_irr _
          · omega)
        have hHa := hH
        have hKa := hK
        cases hL : ltS (keyE ys (2 * k + 1)) (keyE ys k) with
        | false =>
          have hfin : Hid (Hp ys n) := hid (hX.out.stop (fun c h2 h3 => ltS_ntrans (hmin.out c h2 h3) hL))
          have hL := hid hL
          go_wp2_with fail
          refine (Less_at hL.out _ hHa.out.rd (by omega) (i := (2 * k + 1)) (j := k) (by omega) (by omega) (by omega) rfl).mono ?_
          rintro e w2 ⟨rfl, hb2⟩
          have hH2 := hid (hHa.out.below hb2)
          have hK2 := hid (hKa.out.below_ hb2)
          clear hb2
          by_cases he : i0 < k
          · go_wp2
            go_ret
            exact ⟨ys, true, rfl, hH2.out, hp.out, hfin.out, ht.out, (fun h => by cases h), hK2.out⟩
          · go_wp2
            go_ret
            exact ⟨ys, false, rfl, hH2.out, hp.out, hfin.out, ht.out, (fun _ => hs.out (by omega)), hK2.out⟩
        | true =>
          have hdown : Hid (HpX (swE ys k (2 * k + 1)) n (2 * k + 1)) := hid (hX.out.down (by rw [hlen.out]; omega) (by omega) (by omega) hL hmin.out)
          have hperm : Hid ((swE ys k (2 * k + 1)).Perm zs) := hid ((swE_perm (by rw [hlen.out]; omega) (by rw [hlen.out]; omega)).trans hp.out)
          have htail : Hid (∀ j, n ≤ j → atE (swE ys k (2 * k + 1)) j = atE zs j) := hid (fun j hj => by
            rw [swE_at (by rw [hlen.out]; omega) (by rw [hlen.out]; omega), if_neg (by omega), if_neg (by omega)]
            exact ht.out j hj)
          have hL := hid hL
          go_wp2_with fail
          refine (Less_at hL.out _ hHa.out.rd (by omega) (i := (2 * k + 1)) (j := k) (by omega) (by omega) (by omega) rfl).mono ?_
          rintro e w2 ⟨rfl, hb2⟩
          have hH2 := hid (hHa.out.below hb2)
          have hK2 := hid (hKa.out.below_ hb2)
          have mS2 := meth_Swap hH2.out.1.cell
          clear hb2
          go_wp2_with fail
          refine (Swap_at _ hH2.out.2.1 hlen.out (by omega) (i := k) (j := (2 * k + 1)) (by omega) (by omega) (by omega) rfl (by omega)).mono ?_
          rintro e w3 ⟨rfl, ho3, hg3⟩
          have hH3 := hid (hH2.out.put ho3 (by rw [swE_len]) hg3)
          have hK3 := hid (hK2.out.grown hg3 (fun i hi => .inr (by injection hi with hi; exact hi.symm)))
          clear ho3 hg3
          go_wp2
          go_roundw
          case rel => exact ⟨(2 * k + 1), swE ys k (2 * k + 1), by omega, by omega, by first | rfl | go_num, hH3, hperm, hdown, htail, hid (fun h => by omega), hK3⟩
          case measure => simp [intOf]; omega
    · have hfin : Hid (Hp ys n) := hid (hX.out.stop (fun c h2 h3 => by omega))
      by_cases he : i0 < k
      · go_wp2
        go_ret
        exact ⟨ys, true, rfl, hH.out, hp.out, hfin.out, ht.out, (fun h => by cases h), hK.out⟩
      · go_wp2
        go_ret
        exact ⟨ys, false, rfl, hH.out, hp.out, hfin.out, ht.out, (fun _ => hs.out (by omega)), hK.out⟩

theorem down_at {lo hb g N c i0 n : Nat} {zs : List En} {x y : Int} (w : World) (H : HMs w lo hb g N c zs) (hN : N < 1099511627776) (hn : n ≤ N) (hi0 : i0 ≤ N) (hx : HpX zs n i0) (hx1 : x = (i0 : Int)) (hy1 : y = (n : Int)) :
    Calls Try.prog 56 #[.iface 58 (.pointer (some ⟨hb, 0, none⟩)), .int .i64 x, .int .i64 y] w (DownPost lo hb g N c n zs w) := by
  subst hx1; subst hy1; exact down_any w H hN hn hi0 hx
end Go.Proofs.Ytbnmeedmeikepaa
