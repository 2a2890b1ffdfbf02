/-
  The program's ascending. No condition but lengths below 2^40.
-/
import Derived.Test.YtbnmeedmeikepaaGmP
namespace Go.Proofs.Ytbnmeedmeikepaa
open Go.RowKit
set_option linter.unusedVariables false
set_option linter.unusedSimpArgs false

def AscPost (v : Value) (S : List En) (w : World) (e : Ending) (w' : World) : Prop :=
  ∃ (A : Option Addr) (c : Nat), e = .returned (.slice A S.length c) ∧ OwE w' (w.heap.size + 1) (.slice A S.length c) S ∧ Kp (fun i => v.ownBlock = some i) w w'

set_option maxHeartbeats 4000000 in
theorem ascending_any {lo n c : Nat} {A : Option Addr} {zs S : List En} (w : World) (ho : OwE w lo (.slice A n c) zs) (hl : zs.length = n) (hx : Hp zs n) (hp : zs.Perm S) (hS : AscE S) (hN : n < 1099511627776) :
    Calls Try.prog 28 #[.slice A n c] w (AscPost (.slice A n c) S w) := by
  have hSl : S.length = n := by rw [← hp.length_eq]; exact hl
  by_cases hn : n = 0
  · subst hn
    have hS0 : S = [] := List.eq_nil_of_length_eq_zero hSl
    subst hS0
    have hfin : Hid (OwE ((w.alloc (.cells #[.slice A 0 c] 56)).alloc (.cells #[] 34)) (w.heap.size + 1) (.slice (some ⟨w.heap.size + 1, 0, none⟩) 0 0) [] ∧ Kp (fun i => (Value.slice A 0 c).ownBlock = some i) w ((w.alloc (.cells #[.slice A 0 c] 56)).alloc (.cells #[] 34))) := hid
      ⟨by
        have := OwE.empty_lit (B := w.heap.size + 1) (w.alloc (.cells #[.slice A 0 c] 56)) (by simp)
        rwa [World.size_alloc] at this, ((Kp.refl _ w).alloc _).alloc _⟩
    clear ho hl hx hp hS hSl
    go_enter Try.func28, Try.ntmps28
    go_wp2
    go_loopw [3] (fun v wr => v = .slice (some ⟨w.heap.size + 1, 0, none⟩) 0 0 ∧ wr = (w.alloc (.cells #[.slice A 0 c] 56)).alloc (.cells #[] 34)) (fun _ _ => 0)
    case atStart => exact ⟨rfl, rfl⟩
    case round =>
      obtain ⟨rfl, rfl⟩ := hrel
      go_wp2_with fail
      refine (Len_any _ _ _ _).mono ?_
      rintro e w1 ⟨rfl, rfl⟩
      go_wp2
      go_ret
      exact ⟨_, _, rfl, hfin.out.1, hfin.out.2⟩
  · obtain ⟨g, rfl, hg, _, _⟩ := ho.block_ (by omega)
    have hH0 : Hid (HpIs ((w.alloc (.cells #[.slice (some ⟨g, 0, none⟩) n c] 56)).alloc (.cells #[] 34)) lo w.heap.size g n c S) := hid
      ⟨zs, ⟨(Bx.new w _ _).below (below1 _ _), (ho.below (below1 _ _)).below (below1 _ _), hl, by omega⟩, hx, hp⟩
    have hO0 : Hid (OwE ((w.alloc (.cells #[.slice (some ⟨g, 0, none⟩) n c] 56)).alloc (.cells #[] 34)) (w.heap.size + 1) (.slice (some ⟨w.heap.size + 1, 0, none⟩) 0 0) (S.take 0)) := hid (by
      have := OwE.empty_lit (B := w.heap.size + 1) (w.alloc (.cells #[.slice (some ⟨g, 0, none⟩) n c] 56)) (by simp)
      rwa [World.size_alloc] at this)
    have hK0 : Hid (Kp (fun i => i = g) w ((w.alloc (.cells #[.slice (some ⟨g, 0, none⟩) n c] 56)).alloc (.cells #[] 34))) := hid (((Kp.refl _ w).alloc _).alloc _)
    have hSl' := hid hSl
    have hS' := hid hS
    clear ho hl hx hp hS hSl
    go_enter Try.func28, Try.ntmps28
    go_wp2
    go_loopw [3] (fun v wr => ∃ (k r : Nat) (A2 : Option Addr) (c2 : Nat), k ≤ n ∧ v = .slice A2 k c2 ∧ Hid (k + r = n) ∧ Hid (OwE wr (w.heap.size + 1) (.slice A2 k c2) (S.take k)) ∧ Hid (HpIs wr lo w.heap.size g r c (S.drop k)) ∧ Hid (Kp (fun i => i = g) w wr)) (fun v _ => n - slLen v)
    case atStart => exact ⟨0, n, _, _, Nat.zero_le _, rfl, hid (Nat.zero_add _), hO0, hH0, hK0⟩
    case round =>
      obtain ⟨k, r, A2, c2, hk, rfl, hkr, hO, hH, hK⟩ := hrel
      have hc : wr.cell? ⟨w.heap.size, 0, none⟩ = some (.slice (some ⟨g, 0, none⟩) r c) := by
        obtain ⟨zs', a1, _⟩ := hH.out
        exact a1.1.cell
      have htl : (S.take k).length = k := by rw [List.length_take, hSl'.out]; omega
      have htl' := hid htl
      clear htl
      have hrN : r ≤ n := by have := hkr.out; omega
      rcases Nat.eq_zero_or_pos r with h0 | h0
      · subst h0
        have hkn : k = n := by have := hkr.out; omega
        have hfin : Hid (S.length = k ∧ S.take k = S) := hid ⟨by rw [hSl'.out]; exact hkn.symm, List.take_of_length_le (by rw [hSl'.out]; omega)⟩
        clear hkn
        go_wp2_with fail
        refine (Len_any _ _ _ _).mono ?_
        rintro e w1 ⟨rfl, rfl⟩
        go_wp2
        go_ret
        refine ⟨A2, c2, by rw [hfin.out.1]; rfl, ?_, hK.out.mono fun i hi => by rw [hi]; rfl⟩
        have := hO.out
        rw [hfin.out.2] at this
        rw [hfin.out.1]
        exact this
      · obtain ⟨r', rfl⟩ : ∃ r', r = r' + 1 := ⟨r - 1, by omega⟩
        have hkS : k < S.length := by rw [hSl'.out]; have := hkr.out; omega
        obtain ⟨m, t, k', f, hx⟩ : ∃ m t k' f, S[k] = (m, (t, k'), f) := ⟨_, _, _, _, rfl⟩
        have hdrop : S.drop k = (m, (t, k'), f) :: S.drop (k + 1) := by rw [← hx]; exact (List.getElem_cons_drop hkS).symm
        have htake : Hid (S.take k ++ [(m, (t, k'), f)] = S.take (k + 1)) := hid (by rw [List.take_add_one, List.getElem?_eq_getElem hkS, hx]; rfl)
        have hasc : Hid (AscE ((m, (t, k'), f) :: S.drop (k + 1))) := hid (by rw [← hdrop]; exact List.Pairwise.sublist (List.drop_sublist _ _) hS'.out)
        have hHH : Hid (HpIs wr lo w.heap.size g (r' + 1) c ((m, (t, k'), f) :: S.drop (k + 1))) := hid (by rw [← hdrop]; exact hH.out)
        clear hx hdrop
        go_wp2_with fail
        refine (Len_any _ _ _ _).mono ?_
        rintro e w1 ⟨rfl, rfl⟩
        go_wp2_with fail
        refine (take_any _ hHH.out hasc.out (by omega)).mono ?_
        rintro e w2 ⟨rfl, h2, h3⟩
        have hH2 := hid h2
        have hsz := hK.out.size
        have hO2 := hid (h3.own hO.out (fun b hb hS => by
          have := (hO.out.lt b hb).1
          rcases hS with hS | hS <;> omega))
        have hK2 := hid (hK.out.trans h3 (fun i hi hS => by
          rcases hS with hS | hS
          · omega
          · exact hS))
        have hz2 := hK2.out.size
        clear h2 h3
        go_wp2_with (at_builtin; (refine wpList_appE2 rfl und_en (.tmp 8) (.tmp 10) rfl (B := w.heap.size + 1) (Br := w2.heap.size + 1) (v := .slice A2 k c2) (zs := S.take k) (ys := [(m, (t, k'), f)]) rfl rfl (hO2.out.alloc _) (RdE.lit1 w2 m t k' f) (by simp; omega) (by rw [htl'.out]; have := hkr.out; omega) ?_); intro v4 w4 ho4 hg4 hv4)
        have hlt2 : w.heap.size < w2.heap.size := by
          obtain ⟨zs', a1, _⟩ := hH2.out
          exact a1.1.lt
        have hH4 := hid ((hH2.out.below (below1 w2 (.cells #[.int .i64 m, .int .i64 t, .int .i64 k', .bool f] 34))).kp ((Kp.refl (fun b => (Value.slice A2 k c2).ownBlock = some b) _).grown hg4 (fun b hb => .inr hb)) (fun hb => by have := (hO2.out.lt _ hb).1; omega) (fun hb => by have := (hO2.out.lt _ hb).1; omega))
        have hK4 := hid ((hK2.out.alloc (.cells #[.int .i64 m, .int .i64 t, .int .i64 k', .bool f] 34)).grown hg4 (fun b hb => .inl (by have := (hO2.out.lt _ hb).1; omega)))
        obtain ⟨A4, c4, rfl, _⟩ := ho4.form
        rw [htake.out, show (S.take (k + 1)).length = k + 1 by rw [List.length_take, hSl'.out]; have := hkr.out; omega] at ho4 ⊢
        have hO4 := hid ho4
        clear ho4 hg4 hv4
        go_wp2
        go_roundw
        case rel => exact ⟨k + 1, r', A4, c4, by have := hkr.out; omega, rfl, hid (by have := hkr.out; omega), hO4, hH4, hK4⟩
        case measure => simp [slLen]; have := hkr.out; omega

end Go.Proofs.Ytbnmeedmeikepaa
