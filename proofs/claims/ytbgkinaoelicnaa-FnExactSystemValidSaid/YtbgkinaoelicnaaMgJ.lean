/-
  Several of my texts in one: GmR GmS. No condition.
-/
import Derived.Test.YtbgkinaoelicnaaMgF
import Derived.Test.YtbgkinaoelicnaaMgE

namespace Go.Proofs.Ytbgkinaoelicnaa
open Go.RowKit
set_option linter.unusedVariables false
set_option linter.unusedSimpArgs false

theorem ent_hit {id ck : Int} {P D : List En} {m : Int} {i : Nat} {x : En} (hx : (P ++ D)[i]? = some x) (hm : x.1 = m) (hlow : ∀ j y, j < i → (P ++ D)[j]? = some y → y.1 ≠ m) : stA ⟨id, ck, P, D⟩ m = (x, true) := by
  by_cases h : i < P.length
  · rw [List.getElem?_append_left h] at hx
    obtain ⟨h1, h2⟩ := plI_hit hx hm (fun j y hj hy => hlow j y hj (by rw [List.getElem?_append_left (by omega)]; exact hy))
    unfold stA
    simp only
    rw [if_pos (by rw [h2]; omega), h1, atE_get hx]
  · have hP : ∀ e ∈ P, e.1 ≠ m := fun e he => by
      obtain ⟨j, hj, e1⟩ := List.getElem_of_mem he
      exact hlow j e (by omega) (by rw [List.getElem?_append_left hj, List.getElem?_eq_getElem hj, e1])
    rw [List.getElem?_append_right (by omega)] at hx
    obtain ⟨h1, h2⟩ := plI_hit hx hm (fun j y hj hy => hlow (P.length + j) y (by omega) (by rw [List.getElem?_append_right (by omega)]; rw [show P.length + j - P.length = j by omega]; exact hy))
    unfold stA
    simp only
    rw [if_neg (by rw [pla_no hP]; omega), if_pos (by rw [h2]; omega), h1, atE_get hx]

theorem ent_miss {id ck : Int} {P D : List En} {m : Int} (h : ∀ j y, j < (P ++ D).length → (P ++ D)[j]? = some y → y.1 ≠ m) : stA ⟨id, ck, P, D⟩ m = (en0, false) := by
  refine stA_no (fun e he => ?_) (fun e he => ?_)
  · obtain ⟨j, hj, e1⟩ := List.getElem_of_mem (show e ∈ P from he)
    exact h j e (by rw [List.length_append]; omega) (by rw [List.getElem?_append_left hj, List.getElem?_eq_getElem hj, e1])
  · obtain ⟨j, hj, e1⟩ := List.getElem_of_mem (show e ∈ D from he)
    exact h (P.length + j) e (by rw [List.length_append]; omega) (by rw [List.getElem?_append_right (by omega), show P.length + j - P.length = j by omega, List.getElem?_eq_getElem hj, e1])

def EnS (w wr : World) (id ck : Int) (vP vD : Value) (T : List En) (m : Int) (J : Nat) : Prop :=
  (∀ j y, j < J → T[j]? = some y → y.1 ≠ m) ∧ Cs wr w.heap.size 36 #[.int .i64 id, .int .i64 ck, vP, vD] ∧ Cs wr (w.heap.size + 1) 40 #[.int .i64 0, .int .i64 0, .int .i64 0, .bool false] ∧
  Cs wr (w.heap.size + 1 + 1) 34 #[vP, vD] ∧ Below w.heap.size w wr

theorem EnS.step {w wr w' : World} {id ck m : Int} {vP vD : Value} {T : List En} {J : Nat} (h : EnS w wr id ck vP vD T m J) (hb : Below wr.heap.size wr w') : EnS w w' id ck vP vD T m J :=
  ⟨h.1, h.2.1.step hb, h.2.2.1.step hb, h.2.2.2.1.step hb, h.2.2.2.2.trans (hb.mono h.2.2.2.2.size)⟩

theorem EnS.one {w wr : World} {id ck m : Int} {vP vD : Value} {T : List En} {J : Nat} {x : En} (h : EnS w wr id ck vP vD T m J) (hx : T[J]? = some x) (hm : x.1 ≠ m) : EnS w wr id ck vP vD T m (J + 1) :=
  ⟨fun j y hj hy => by
    by_cases e : j = J
    · subst e; rw [hx] at hy; injection hy with hy; rw [← hy]; exact hm
    · exact h.1 j y (by omega) hy, h.2⟩

set_option maxRecDepth 100000 in
set_option maxHeartbeats 4000000 in
theorem entry_as {n1 c1 n2 c2 : Nat} {A1 A2 : Option Addr} {P D : List En} {id ck m m' t' k' : Int} {f' b' : Bool} (hst : stA ⟨id, ck, P, D⟩ m = ((m', (t', k'), f'), b')) (w : World) (hr : RdG w A1 n1 c1 A2 n2 c2 P D) :
    Calls Try.prog 28 #[gpV id ck (.slice A1 n1 c1) (.slice A2 n2 c2), .int .i64 m] w fun e w' => e = .returned (.tuple #[enV m' t' k' f', .bool b']) ∧ Below w.heap.size w w' := by
  have hl1 := hid hr.rp.len
  have hl2 := hid hr.rd.len
  have hh1 := hr.h1
  have hh2 := hr.h2
  have hst' := hid hst
  obtain ⟨W0, hW0⟩ : ∃ W0, (((w.alloc (.cells #[.int .i64 id, .int .i64 ck, .slice A1 n1 c1, .slice A2 n2 c2] 36)).alloc (.cells #[.int .i64 0, .int .i64 0, .int .i64 0, .bool false] 40)).alloc (.cells #[.slice A1 n1 c1, .slice A2 n2 c2] 34)) = W0 := ⟨_, rfl⟩
  have hE0 : Hid (EnS w W0 id ck (.slice A1 n1 c1) (.slice A2 n2 c2) (P ++ D) m 0) := hid (by
    rw [← hW0]
    exact ⟨fun j y hj => by omega, ((Cs.new w _ _).alloc _).alloc _, (Cs.new' _ _ _ (by simp)).alloc _, Cs.new' _ _ _ (by simp), below3 w _ _ _⟩)
  have hr0 := hid (hr.below hE0.out.2.2.2.2)
  have hW0' := hid hW0
  have hrw := hid hr
  clear hr hW0 hst
  go_enter Try.func28, Try.ntmps28
  go_wp2
  rw [hW0'.out]
  go_loopw [16] (fun i wr => ∃ o J : Nat, o ≤ 2 ∧ i = .int .i64 o ∧ Hid ((o = 0 ∧ J = 0) ∨ (o = 1 ∧ J = n1) ∨ (o = 2 ∧ J = n1 + n2)) ∧ Hid (EnS w wr id ck (.slice A1 n1 c1) (.slice A2 n2 c2) (P ++ D) m J) ∧ Hid (RdG wr A1 n1 c1 A2 n2 c2 P D)) (fun i _ => 2 - (intOf i).toNat)
  case atStart => exact ⟨0, 0, by omega, rfl, hid (.inl ⟨rfl, rfl⟩), hE0, hr0⟩
  case round =>
    obtain ⟨o, J, ho, rfl, hoJ, hE, hr⟩ := hrel
    by_cases hlt : o < 2
    · obtain ⟨X, Ax, nx, cx, hcell, hX, hnx, hXT, hnext⟩ : ∃ (X : List En) (Ax : Option Addr) (nx cx : Nat), wr.cell? ⟨w.heap.size + 1 + 1, o, none⟩ = some (.slice Ax nx cx) ∧ Hid (RdE wr wr.heap.size Ax nx X) ∧ nx < 1099511627776 ∧ Hid (∀ k, k < nx → (P ++ D)[J + k]? = X[k]?) ∧
          Hid ((o + 1 = 0 ∧ J + nx = 0) ∨ (o + 1 = 1 ∧ J + nx = n1) ∨ (o + 1 = 2 ∧ J + nx = n1 + n2)) := by
        have hS := hE.out.2.2.2.1
        rcases hoJ.out with ⟨h1, h2⟩ | ⟨h1, h2⟩ | ⟨h1, _⟩
        · subst h1; subst h2
          exact ⟨P, A1, n1, c1, hS.cell 0, hr.out.rp, hh1, hid (fun k hk => by rw [Nat.zero_add, List.getElem?_append_left (by rw [hl1.out]; exact hk)]), hid (.inr (.inl ⟨rfl, by omega⟩))⟩
        · subst h1; subst h2
          exact ⟨D, A2, n2, c2, hS.cell 1, hr.out.rd, hh2, hid (fun k hk => by rw [List.getElem?_append_right (by rw [hl1.out]; omega), hl1.out]; congr 1; omega), hid (.inr (.inr ⟨rfl, by omega⟩))⟩
        · omega
      have hgo := hE.out.2.2.2.1.lt
      have hod : decide ((o : Int) < 2) = true := by simp; omega
      go_wp2
      go_loopw [22] (fun i wx => ∃ k : Nat, k ≤ nx ∧ i = .int .i64 k ∧ Hid (EnS w wx id ck (.slice A1 n1 c1) (.slice A2 n2 c2) (P ++ D) m (J + k)) ∧ Hid (RdE wx wx.heap.size Ax nx X) ∧ Hid (RdG wx A1 n1 c1 A2 n2 c2 P D)) (fun i _ => nx - (intOf i).toNat)
      case atStart => exact ⟨0, Nat.zero_le _, rfl, hE, hX, hr⟩
      case round =>
        obtain ⟨k, hk, rfl, hE, hX, hr⟩ := hrel
        by_cases hlt2 : k < nx
        · obtain ⟨b, off, mx, t, g, f, rfl, hx, hb, c0, c1', c2', c3⟩ := hX.out.at_ hlt2
          have hxT : Hid ((P ++ D)[J + k]? = some (mx, (t, g), f)) := hid ((hXT.out k hlt2).trans hx.out)
          have W1 := below1 wr (.cells #[.int .i64 mx, .int .i64 t, .int .i64 g, .bool f] 40)
          have hE1 := hid (hE.out.step W1)
          have hX1 := hid ((hX.out.below W1).more W1.size)
          have hr1 := hid (hr.out.below W1)
          have hwr : w.heap.size + 1 + 1 < wr.heap.size := hE.out.2.2.2.1.lt
          have hwr1 : w.heap.size + 1 < wr.heap.size := by omega
          clear W1
          by_cases hm : mx = m
          · have heq : (mx == m) = true := by simp [hm]
            obtain ⟨rfl, rfl, rfl, rfl, rfl⟩ : mx = m' ∧ t = t' ∧ g = k' ∧ f = f' ∧ b' = true := by
              have := (ent_hit (id := id) (ck := ck) hxT.out hm hE.out.1).symm.trans hst'.out
              simp only [Prod.mk.injEq] at this
              exact ⟨this.1.1, this.1.2.1.1, this.1.2.1.2, this.1.2.2, this.2.symm⟩
            obtain ⟨r0, r1, r2, r3⟩ := hE.out.2.2.1.four
            obtain ⟨u0, u1, u2, u3⟩ := hE.out.2.2.1.free4
            have hB := hid hE.out.2.2.2.2
            clear hm
            go_wp2
            refine bodyPost_ret (v := .tuple #[enV mx t g f, .bool true]) (by simp [results, Try.results28, go_sem, r0, r1, r2, r3, hwr1]) rfl ⟨rfl, ?_⟩
            first
              | exact ((((hB.out.setCell (Nat.le_succ _) _).setCell (Nat.le_succ _) _).setCell (Nat.le_succ _) _).setCell (Nat.le_succ _) _).alloc (by simp [World.setCell]; exact hB.out.size) _
              | exact ((((hB.out.alloc hB.out.size _).setCell (Nat.le_succ _) _).setCell (Nat.le_succ _) _).setCell (Nat.le_succ _) _).setCell (Nat.le_succ _) _
          · have heq : (mx == m) = false := by simp [hm]
            have hE2 := hid (hE1.out.one hxT.out hm)
            clear hm hE1
            go_wp2
            go_roundw
            case rel => exact ⟨k + 1, by omega, by go_num, hE2, hX1, hr1⟩
            case measure => simp [intOf]; omega
        · obtain rfl : k = nx := by omega
          have hE9 := hE
          go_wp2
          go_roundw
          case rel => exact ⟨o + 1, J + k, by omega, by go_num, hnext, hE9, hr⟩
          case measure => simp [intOf]; omega
    · have hJ : J = n1 + n2 := by
        rcases hoJ.out with h | h | h <;> omega
      obtain ⟨rfl, rfl, rfl, rfl, rfl⟩ : m' = 0 ∧ t' = 0 ∧ k' = 0 ∧ f' = false ∧ b' = false := by
        have := (ent_miss (id := id) (ck := ck) (fun j y hj hy => hE.out.1 j y (by rw [List.length_append, hl1.out, hl2.out] at hj; omega) hy)).symm.trans hst'.out
        simp only [en0, Prod.mk.injEq] at this
        exact ⟨this.1.1.symm, this.1.2.1.1.symm, this.1.2.1.2.symm, this.1.2.2.symm, this.2.symm⟩
      obtain ⟨r0, r1, r2, r3⟩ := hE.out.2.2.1.four
      obtain ⟨u0, u1, u2, u3⟩ := hE.out.2.2.1.free4
      have hB := hid hE.out.2.2.2.2
      clear hJ
      go_wp2
      refine bodyPost_ret (v := .tuple #[enV 0 0 0 false, .bool false]) (by simp [results, Try.results28, go_sem, r0, r1, r2, r3]) rfl ⟨rfl, ?_⟩
      exact (((hB.out.setCell (Nat.le_succ _) _).setCell (Nat.le_succ _) _).setCell (Nat.le_succ _) _).setCell (Nat.le_succ _) _
end Go.Proofs.Ytbgkinaoelicnaa

namespace Go.Proofs.Ytbgkinaoelicnaa
open Go.RowKit
set_option linter.unusedVariables false
set_option linter.unusedSimpArgs false

def hdM : List En → Int
  | [] => -1
  | e :: _ => e.1

theorem bl_yes {id ck : Int} {P D : List En} (h : vdB ⟨id, ck, P, D⟩ = true) : blR ⟨id, ck, P, D⟩ = hdM P := by
  unfold blR
  rw [if_pos h]
  cases P <;> rfl

theorem gbox (w : World) (id ck : Int) (p q : Value) (cs : Array Value) (T : TypeId) : Cs ((w.alloc (.cells #[.int .i64 id, .int .i64 ck, p, q] 36)).alloc (.cells cs T)) w.heap.size 36 #[.int .i64 id, .int .i64 ck, p, q] ∧ Cs ((w.alloc (.cells #[.int .i64 id, .int .i64 ck, p, q] 36)).alloc (.cells cs T)) (w.heap.size + 1) T cs :=
  ⟨(Cs.new w _ _).alloc _, Cs.new' _ _ _ (by simp)⟩

set_option maxHeartbeats 2000000 in
theorem l11Stamp_as {n1 c1 n2 c2 : Nat} {A1 A2 : Option Addr} {P D : List En} {id ck m m' t' k' : Int} {f' b' : Bool} (hst : stA ⟨id, ck, P, D⟩ m = ((m', (t', k'), f'), b')) (w : World) (hr : RdG w A1 n1 c1 A2 n2 c2 P D) :
    Calls Try.prog 11 #[gpV id ck (.slice A1 n1 c1) (.slice A2 n2 c2), .int .i64 m] w fun e w' => e = .returned (.tuple #[enV m' t' k' f', .bool b']) ∧ Below w.heap.size w w' := by
  have hB0 := hid (below2 w (.cells #[.int .i64 id, .int .i64 ck, .slice A1 n1 c1, .slice A2 n2 c2] 36) (.cells #[.int .i64 0, .int .i64 0, .int .i64 0, .bool false] 40))
  have hl1 := hid hr.rp.len
  have hl2 := hid hr.rd.len
  have hh1 := hr.h1
  have hh2 := hr.h2
  have hr0 := hid (hr.below hB0.out)
  have hst' := hid hst
  clear hst
  rcases pla_cases P m with ⟨k, x, p1, p2, p3, p4, p5, _⟩ | ⟨_, p2, p3⟩
  · have hx : x = (m', (t', k'), f') ∧ b' = true := by
      have h1 := hst'.out
      unfold stA at h1
      simp only at h1
      rw [if_pos (by rw [p2]; omega), p1, atE_get p4] at h1
      injection h1 with h1 h2
      exact ⟨h1, h2.symm⟩
    obtain ⟨rfl, rfl⟩ := hx
    have hkn : k < n1 := by rw [← hl1.out]; exact p3
    obtain ⟨b, off, m9, t9, g9, f9, rfl, hx9, hb, c0, c1', c2', c3⟩ := hr.rp.at_ hkn
    obtain ⟨rfl, rfl, rfl, rfl⟩ : m9 = m' ∧ t9 = t' ∧ g9 = k' ∧ f9 = f' := by
      have := hx9.out.symm.trans p4
      simp only [Option.some.injEq, Prod.mk.injEq] at this
      exact ⟨this.1, this.2.1.1, this.2.1.2, this.2.2⟩
    have hF := hid p2
    have k0 : (0 : Int) ≤ (k : Int) := by omega
    clear hr p1 p2 p3 p4 p5 hx9
    go_enter Try.func11, Try.ntmps11
    go_wp2_with fail
    refine (l11Find_as hF.out _ hr0.out.rp hh1).mono ?_
    rintro e w1 ⟨rfl, rfl⟩
    go_wp2
    refine bodyPost_ret (v := .tuple #[enV m9 t9 g9 f9, .bool true]) (by simp [results, Try.results11, go_sem]) rfl ⟨rfl, ?_⟩
    first
      | exact hB0.out
      | exact (((hB0.out.setCell (Nat.le_succ _) _).setCell (Nat.le_succ _) _).setCell (Nat.le_succ _) _).setCell (Nat.le_succ _) _
      | exact below2 w _ _
  · have hF := hid p2
    rcases pla_cases D m with ⟨k, x, q1, q2, q3, q4, q5, _⟩ | ⟨_, q2, q3⟩
    · have hx : x = (m', (t', k'), f') ∧ b' = true := by
        have h1 := hst'.out
        unfold stA at h1
        simp only at h1
        rw [if_neg (by rw [p2]; omega), if_pos (by rw [q2]; omega), q1, atE_get q4] at h1
        injection h1 with h1 h2
        exact ⟨h1, h2.symm⟩
      obtain ⟨rfl, rfl⟩ := hx
      have hkn : k < n2 := by rw [← hl2.out]; exact q3
      obtain ⟨b, off, m9, t9, g9, f9, rfl, hx9, hb, c0, c1', c2', c3⟩ := hr.rd.at_ hkn
      obtain ⟨rfl, rfl, rfl, rfl⟩ : m9 = m' ∧ t9 = t' ∧ g9 = k' ∧ f9 = f' := by
        have := hx9.out.symm.trans q4
        simp only [Option.some.injEq, Prod.mk.injEq] at this
        exact ⟨this.1, this.2.1.1, this.2.1.2, this.2.2⟩
      have hF2 := hid q2
      have k0 : (0 : Int) ≤ (k : Int) := by omega
      clear hr p2 p3 q1 q2 q3 q4 q5 hx9
      go_enter Try.func11, Try.ntmps11
      go_wp2_with fail
      refine (l11Find_as hF.out _ hr0.out.rp hh1).mono ?_
      rintro e w1 ⟨rfl, rfl⟩
      go_wp2_with fail
      refine (l11Find_as hF2.out _ hr0.out.rd hh2).mono ?_
      rintro e w1 ⟨rfl, rfl⟩
      go_wp2
      refine bodyPost_ret (v := .tuple #[enV m9 t9 g9 f9, .bool true]) (by simp [results, Try.results11, go_sem]) rfl ⟨rfl, ?_⟩
      first
        | exact hB0.out
        | exact (((hB0.out.setCell (Nat.le_succ _) _).setCell (Nat.le_succ _) _).setCell (Nat.le_succ _) _).setCell (Nat.le_succ _) _
        | exact below2 w _ _
    · have hx : ((m', (t', k'), f') : En) = en0 ∧ b' = false := by
        have h1 := hst'.out
        unfold stA at h1
        simp only at h1
        rw [if_neg (by rw [p2]; omega), if_neg (by rw [q2]; omega)] at h1
        injection h1 with h1 h2
        exact ⟨h1.symm, h2.symm⟩
      obtain ⟨rfl, rfl, rfl, rfl⟩ : m' = 0 ∧ t' = 0 ∧ k' = 0 ∧ f' = false := by
        have := hx.1
        simp only [en0, Prod.mk.injEq] at this
        exact ⟨this.1, this.2.1.1, this.2.1.2, this.2.2⟩
      obtain rfl := hx.2
      have hF2 := hid q2
      clear hr p2 p3 q2 q3 hx
      go_enter Try.func11, Try.ntmps11
      go_wp2_with fail
      refine (l11Find_as hF.out _ hr0.out.rp hh1).mono ?_
      rintro e w1 ⟨rfl, rfl⟩
      go_wp2_with fail
      refine (l11Find_as hF2.out _ hr0.out.rd hh2).mono ?_
      rintro e w1 ⟨rfl, rfl⟩
      go_wp2
      refine bodyPost_ret (v := .tuple #[enV 0 0 0 false, .bool false]) (by simp [results, Try.results11, go_sem]) rfl ⟨rfl, ?_⟩
      first
        | exact hB0.out
        | exact (((hB0.out.setCell (Nat.le_succ _) _).setCell (Nat.le_succ _) _).setCell (Nat.le_succ _) _).setCell (Nat.le_succ _) _
        | exact below2 w _ _

def NewPost (id : Int) (w : World) (e : Ending) (w' : World) : Prop :=
  ∃ (A1 : Option Addr) (c1 : Nat) (A2 : Option Addr) (c2 : Nat), e = .returned (.tuple #[gpV (if grB id then id else 0) 0 (.slice A1 0 c1) (.slice A2 0 c2), .bool (grB id)]) ∧ OwG w' w.heap.size A1 0 c1 A2 0 c2 [] [] ∧ Below w.heap.size w w'

theorem own_nil (w : World) (lo : Nat) : OwG w lo none 0 0 none 0 0 [] [] := ⟨World.ownsRow_nil w _ _ _, World.ownsRow_nil w _ _ _, rfl, rfl, fun b h => by cases h⟩

end Go.Proofs.Ytbgkinaoelicnaa
