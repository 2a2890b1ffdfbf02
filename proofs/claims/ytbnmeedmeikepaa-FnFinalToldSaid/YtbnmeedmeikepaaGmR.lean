/-
  Contracts of the readers of a group, of the program and of the model: entry, l11Stamp, GroupStamp, GroupBlocked, GroupTrace, GroupNew. No condition but lengths below 2^40.
-/
import Derived.Test.YtbnmeedmeikepaaGmQ
import Derived.Test.YtbnmeedmeikepaaGmE
namespace Go.Proofs.Ytbnmeedmeikepaa
open Go.RowKit
set_option linter.unusedVariables false
set_option linter.unusedSimpArgs false

theorem ent_hit {id ck : Int} {P D : List En} {m : Int} {i : Nat} {x : En} (hx : (P ++ D)[i]? = some x) (hm : x.1 = m) (hlow : ∀ j y, j < i → (P ++ D)[j]? = some y → y.1 ≠ m) : stA ⟨id, ck, P, D⟩ m = (x, true) := by
  by_cases h : i < P.length
  · rw [List.getElem?_append_left h] at hx
    obtain ⟨h1, h2⟩ := plI_hit hx hm (fun j y hj hy => hlow j y hj (by rw [List.getElem?_append_left (by omega)]; exact hy))
    unfold stA
    simp only
    rw [if_pos (by rw [h2]; omega), h1, atE_get hx]
  · have hP : ∀ e ∈ P, e.1 ≠ m := fun e he => by
      obtain ⟨j, hj, e1⟩ := List.getElem_of_mem he
      exact hlow j e (by omega) (by rw [List.getElem?_append_left hj, List.getElem?_eq_getElem hj, e1])
    rw [List.getElem?_append_right (by omega)] at hx
    obtain ⟨h1, h2⟩ := plI_hit hx hm (fun j y hj hy => hlow (P.length + j) y (by omega) (by rw [List.getElem?_append_right (by omega)]; rw [show P.length + j - P.length = j by omega]; exact hy))
    unfold stA
    simp only
    rw [if_neg (by rw [pla_no hP]; omega), if_pos (by rw [h2]; omega), h1, atE_get hx]

theorem ent_miss {id ck : Int} {P D : List En} {m : Int} (h : ∀ j y, j < (P ++ D).length → (P ++ D)[j]? = some y → y.1 ≠ m) : stA ⟨id, ck, P, D⟩ m = (en0, false) := by
  refine stA_no (fun e he => ?_) (fun e he => ?_)
  · obtain ⟨j, hj, e1⟩ := List.getElem_of_mem (show e ∈ P from he)
    exact h j e (by rw [List.length_append]; omega) (by rw [List.getElem?_append_left hj, List.getElem?_eq_getElem hj, e1])
  · obtain ⟨j, hj, e1⟩ := List.getElem_of_mem (show e ∈ D from he)
    exact h (P.length + j) e (by rw [List.length_append]; omega) (by rw [List.getElem?_append_right (by omega), show P.length + j - P.length = j by omega, List.getElem?_eq_getElem hj, e1])

def EnS (w wr : World) (id ck : Int) (vP vD : Value) (T : List En) (m : Int) (J : Nat) : Prop :=
  (∀ j y, j < J → T[j]? = some y → y.1 ≠ m) ∧ Cs wr w.heap.size 25 #[.int .i64 id, .int .i64 ck, vP, vD] ∧ Cs wr (w.heap.size + 1) 34 #[.int .i64 0, .int .i64 0, .int .i64 0, .bool false] ∧
  Cs wr (w.heap.size + 1 + 1) 23 #[vP, vD] ∧ Below w.heap.size w wr

theorem EnS.step {w wr w' : World} {id ck m : Int} {vP vD : Value} {T : List En} {J : Nat} (h : EnS w wr id ck vP vD T m J) (hb : Below wr.heap.size wr w') : EnS w w' id ck vP vD T m J :=
  ⟨h.1, h.2.1.step hb, h.2.2.1.step hb, h.2.2.2.1.step hb, h.2.2.2.2.trans (hb.mono h.2.2.2.2.size)⟩

theorem EnS.one {w wr : World} {id ck m : Int} {vP vD : Value} {T : List En} {J : Nat} {x : En} (h : EnS w wr id ck vP vD T m J) (hx : T[J]? = some x) (hm : x.1 ≠ m) : EnS w wr id ck vP vD T m (J + 1) :=
  ⟨fun j y hj hy => by
    by_cases e : j = J
    · subst e; rw [hx] at hy; injection hy with hy; rw [← hy]; exact hm
    · exact h.1 j y (by omega) hy, h.2⟩

set_option maxRecDepth 100000 in
set_option maxHeartbeats 4000000 in
theorem entry_as {n1 c1 n2 c2 : Nat} {A1 A2 : Option Addr} {P D : List En} {id ck m m' t' k' : Int} {f' b' : Bool} (hst : stA ⟨id, ck, P, D⟩ m = ((m', (t', k'), f'), b')) (w : World) (hr : RdG w A1 n1 c1 A2 n2 c2 P D) :
    Calls Try.prog 26 #[gpV id ck (.slice A1 n1 c1) (.slice A2 n2 c2), .int .i64 m] w fun e w' => e = .returned (.tuple #[enV m' t' k' f', .bool b']) ∧ Below w.heap.size w w' := by
  have hl1 := hid hr.rp.len
  have hl2 := hid hr.rd.len
  have hh1 := hr.h1
  have hh2 := hr.h2
  have hst' := hid hst
  obtain ⟨W0, hW0⟩ : ∃ W0, (((w.alloc (.cells #[.int .i64 id, .int .i64 ck, .slice A1 n1 c1, .slice A2 n2 c2] 25)).alloc (.cells #[.int .i64 0, .int .i64 0, .int .i64 0, .bool false] 34)).alloc (.cells #[.slice A1 n1 c1, .slice A2 n2 c2] 23)) = W0 := ⟨_, rfl⟩
  have hE0 : Hid (EnS w W0 id ck (.slice A1 n1 c1) (.slice A2 n2 c2) (P ++ D) m 0) := hid (by
    rw [← hW0]
    exact ⟨fun j y hj => by omega, ((Cs.new w _ _).alloc _).alloc _, (Cs.new' _ _ _ (by simp)).alloc _, Cs.new' _ _ _ (by simp), below3 w _ _ _⟩)
  have hr0 := hid (hr.below hE0.out.2.2.2.2)
  have hW0' := hid hW0
  have hrw := hid hr
  clear hr hW0 hst
  go_enter Try.func26, Try.ntmps26
  go_wp2
  rw [hW0'.out]
  go_loopw [16] (fun i wr => ∃ o J : Nat, o ≤ 2 ∧ i = .int .i64 o ∧ Hid ((o = 0 ∧ J = 0) ∨ (o = 1 ∧ J = n1) ∨ (o = 2 ∧ J = n1 + n2)) ∧ Hid (EnS w wr id ck (.slice A1 n1 c1) (.slice A2 n2 c2) (P ++ D) m J) ∧ Hid (RdG wr A1 n1 c1 A2 n2 c2 P D)) (fun i _ => 2 - (intOf i).toNat)
  case atStart => exact ⟨0, 0, by omega, rfl, hid (.inl ⟨rfl, rfl⟩), hE0, hr0⟩
  case round =>
    obtain ⟨o, J, ho, rfl, hoJ, hE, hr⟩ := hrel
    by_cases hlt : o < 2
    · obtain ⟨X, Ax, nx, cx, hcell, hX, hnx, hXT, hnext⟩ : ∃ (X : List En) (Ax : Option Addr) (nx cx : Nat), wr.cell? ⟨w.heap.size + 1 + 1, o, none⟩ = some (.slice Ax nx cx) ∧ Hid (RdE wr wr.heap.size Ax nx X) ∧ nx < 1099511627776 ∧ Hid (∀ k, k < nx → (P ++ D)[J + k]? = X[k]?) ∧
          Hid ((o + 1 = 0 ∧ J + nx = 0) ∨ (o + 1 = 1 ∧ J + nx = n1) ∨ (o + 1 = 2 ∧ J + nx = n1 + n2)) := by
        have hS := hE.out.2.2.2.1
        rcases hoJ.out with ⟨h1, h2⟩ | ⟨h1, h2⟩ | ⟨h1, _⟩
        · subst h1; subst h2
          exact ⟨P, A1, n1, c1, hS.cell 0, hr.out.rp, hh1, hid (fun k hk => by rw [Nat.zero_add, List.getElem?_append_left (by rw [hl1.out]; exact hk)]), hid (.inr (.inl ⟨rfl, by omega⟩))⟩
        · subst h1; subst h2
          exact ⟨D, A2, n2, c2, hS.cell 1, hr.out.rd, hh2, hid (fun k hk => by rw [List.getElem?_append_right (by rw [hl1.out]; omega), hl1.out]; congr 1; omega), hid (.inr (.inr ⟨rfl, by omega⟩))⟩
        · omega
      have hgo := hE.out.2.2.2.1.lt
      have hod : decide ((o : Int) < 2) = true := by simp; omega
      go_wp2
      go_loopw [22] (fun i wx => ∃ k : Nat, k ≤ nx ∧ i = .int .i64 k ∧ Hid (EnS w wx id ck (.slice A1 n1 c1) (.slice A2 n2 c2) (P ++ D) m (J + k)) ∧ Hid (RdE wx wx.heap.size Ax nx X) ∧ Hid (RdG wx A1 n1 c1 A2 n2 c2 P D)) (fun i _ => nx - (intOf i).toNat)
      case atStart => exact ⟨0, Nat.zero_le _, rfl, hE, hX, hr⟩
      case round =>
        obtain ⟨k, hk, rfl, hE, hX, hr⟩ := hrel
        by_cases hlt2 : k < nx
        · obtain ⟨b, off, mx, t, g, f, rfl, hx, hb, c0, c1', c2', c3⟩ := hX.out.at_ hlt2
          have hxT : Hid ((P ++ D)[J + k]? = some (mx, (t, g), f)) := hid ((hXT.out k hlt2).trans hx.out)
          have W1 := below1 wr (.cells #[.int .i64 mx, .int .i64 t, .int .i64 g, .bool f] 34)
          have hE1 := hid (hE.out.step W1)
          have hX1 := hid ((hX.out.below W1).more W1.size)
          have hr1 := hid (hr.out.below W1)
          have hwr : w.heap.size + 1 + 1 < wr.heap.size := hE.out.2.2.2.1.lt
          have hwr1 : w.heap.size + 1 < wr.heap.size := by omega
          clear W1
          by_cases hm : mx = m
          · have heq : (mx == m) = true := by simp [hm]
            obtain ⟨rfl, rfl, rfl, rfl, rfl⟩ : mx = m' ∧ t = t' ∧ g = k' ∧ f = f' ∧ b' = true := by
              have := (ent_hit (id := id) (ck := ck) hxT.out hm hE.out.1).symm.trans hst'.out
              simp only [Prod.mk.injEq] at this
              exact ⟨this.1.1, this.1.2.1.1, this.1.2.1.2, this.1.2.2, this.2.symm⟩
            obtain ⟨r0, r1, r2, r3⟩ := hE.out.2.2.1.four
            obtain ⟨u0, u1, u2, u3⟩ := hE.out.2.2.1.free4
            have hB := hid hE.out.2.2.2.2
            clear hm
            go_wp2
            refine bodyPost_ret (v := .tuple #[enV mx t g f, .bool true]) (by simp [results, Try.results26, go_sem, r0, r1, r2, r3, hwr1]) rfl ⟨rfl, ?_⟩
            first
              | exact ((((hB.out.setCell (Nat.le_succ _) _).setCell (Nat.le_succ _) _).setCell (Nat.le_succ _) _).setCell (Nat.le_succ _) _).alloc (by simp [World.setCell]; exact hB.out.size) _
              | exact ((((hB.out.alloc hB.out.size _).setCell (Nat.le_succ _) _).setCell (Nat.le_succ _) _).setCell (Nat.le_succ _) _).setCell (Nat.le_succ _) _
          · have heq : (mx == m) = false := by simp [hm]
            have hE2 := hid (hE1.out.one hxT.out hm)
            clear hm hE1
            go_wp2
            go_roundw
            case rel => exact ⟨k + 1, by omega, by go_num, hE2, hX1, hr1⟩
            case measure => simp [intOf]; omega
        · obtain rfl : k = nx := by omega
          have hE9 := hE
          go_wp2
          go_roundw
          case rel => exact ⟨o + 1, J + k, by omega, by go_num, hnext, hE9, hr⟩
          case measure => simp [intOf]; omega
    · have hJ : J = n1 + n2 := by
        rcases hoJ.out with h | h | h <;> omega
      obtain ⟨rfl, rfl, rfl, rfl, rfl⟩ : m' = 0 ∧ t' = 0 ∧ k' = 0 ∧ f' = false ∧ b' = false := by
        have := (ent_miss (id := id) (ck := ck) (fun j y hj hy => hE.out.1 j y (by rw [List.length_append, hl1.out, hl2.out] at hj; omega) hy)).symm.trans hst'.out
        simp only [en0, Prod.mk.injEq] at this
        exact ⟨this.1.1.symm, this.1.2.1.1.symm, this.1.2.1.2.symm, this.1.2.2.symm, this.2.symm⟩
      obtain ⟨r0, r1, r2, r3⟩ := hE.out.2.2.1.four
      obtain ⟨u0, u1, u2, u3⟩ := hE.out.2.2.1.free4
      have hB := hid hE.out.2.2.2.2
      clear hJ
      go_wp2
      refine bodyPost_ret (v := .tuple #[enV 0 0 0 false, .bool false]) (by simp [results, Try.results26, go_sem, r0, r1, r2, r3]) rfl ⟨rfl, ?_⟩
      exact (((hB.out.setCell (Nat.le_succ _) _).setCell (Nat.le_succ _) _).setCell (Nat.le_succ _) _).setCell (Nat.le_succ _) _
end Go.Proofs.Ytbnmeedmeikepaa
