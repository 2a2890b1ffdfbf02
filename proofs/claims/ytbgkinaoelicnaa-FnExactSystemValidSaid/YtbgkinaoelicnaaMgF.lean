/-
  Several of my texts in one: GmI GmJ GmOw. No condition.
-/
import Derived.Test.YtbgkinaoelicnaaGmH

namespace Go.Proofs.Ytbgkinaoelicnaa
open Go.RowKit
set_option linter.unusedVariables false

theorem messageExists_as {m : Int} {r : Bool} (h : msB m = r) (w : World) : Calls Try.prog 38 #[.int .i64 m] w fun e w' => e = .returned (.bool r) ∧ w = w' := by
  subst h; exact messageExists_any m w

theorem StampValidI_as {t g : Int} {r : Bool} (h : stB t g = r) (w : World) : Calls Try.prog 39 #[two t g] w fun e w' => e = .returned (.bool r) ∧ Below w.heap.size w w' := by
  subst h; exact StampValid_impl t g w

theorem lessM_as {a b c d : Int} {r : Bool} (h : lexB a b c d = r) (w : World) : Calls Try.prog 29 #[two a b, two c d] w fun e w' => e = .returned (.bool r) ∧ Below w.heap.size w w' := by
  subst h; exact StampLessM a b c d w

theorem groupExists_as {n : Int} {r : Bool} (h : grB n = r) (w : World) : Calls Try.prog 23 #[.int .i64 n] w fun e w' => e = .returned (.bool r) ∧ w = w' := by
  subst h; exact groupExists_any n w

set_option maxHeartbeats 2000000 in
theorem mayHave_any {n1 c1 n2 c2 : Nat} {A1 A2 : Option Addr} (id ck m t g : Int) (f : Bool) (w : World) :
    Calls Try.prog 34 #[gpV id ck (.slice A1 n1 c1) (.slice A2 n2 c2), enV m t g f] w fun e w' => e = .returned (.bool (okE id ck (m, (t, g), f))) ∧ Below w.heap.size w w' := by
  have hG0 : Hid (Cs ((w.alloc (.cells #[.int .i64 id, .int .i64 ck, .slice A1 n1 c1, .slice A2 n2 c2] 36)).alloc (.cells #[.int .i64 m, .int .i64 t, .int .i64 g, .bool f] 40)) w.heap.size 36 #[.int .i64 id, .int .i64 ck, .slice A1 n1 c1, .slice A2 n2 c2]) := hid ((Cs.new w _ _).alloc _)
  have hE0 : Hid (Cs ((w.alloc (.cells #[.int .i64 id, .int .i64 ck, .slice A1 n1 c1, .slice A2 n2 c2] 36)).alloc (.cells #[.int .i64 m, .int .i64 t, .int .i64 g, .bool f] 40)) (w.heap.size + 1) 40 #[.int .i64 m, .int .i64 t, .int .i64 g, .bool f]) := hid (by
    have := Cs.new (w.alloc (.cells #[.int .i64 id, .int .i64 ck, .slice A1 n1 c1, .slice A2 n2 c2] 36)) 40 #[.int .i64 m, .int .i64 t, .int .i64 g, .bool f]
    rwa [World.size_alloc] at this)
  have hB0 := hid (below2 w (.cells #[.int .i64 id, .int .i64 ck, .slice A1 n1 c1, .slice A2 n2 c2] 36) (.cells #[.int .i64 m, .int .i64 t, .int .i64 g, .bool f] 40))
  cases hM : msB m with
  | false =>
    have R := hid (okE_no (id := id) (ck := ck) (m := m) (t := t) (g := g) (f := f) (.inl hM))
    have hM := hid hM
    go_enter Try.func34, Try.ntmps34
    go_wp2_with (go_at_call 38; (with_reducible refine (messageExists_as hM.out _).mono ?_); rintro e w' ⟨rfl, rfl⟩)
    go_ret
    exact ⟨by rw [R.out]; rfl, hB0.out⟩
  | true =>
    have hM := hid hM
    cases hS : stB t g with
    | false =>
      have R := hid (okE_no (id := id) (ck := ck) (m := m) (t := t) (g := g) (f := f) (.inr (.inl hS)))
      have hS := hid hS
      go_enter Try.func34, Try.ntmps34
      go_wp2_with (first
        | (go_at_call 38; (with_reducible refine (messageExists_as hM.out _).mono ?_); rintro e w' ⟨rfl, rfl⟩)
        | (go_at_call 39; (with_reducible refine (StampValidI_as hS.out _).mono ?_); rintro e w1 ⟨rfl, hb1⟩))
      go_ret
      exact ⟨by rw [R.out]; rfl, hB0.out.trans (hb1.mono (by simp; omega))⟩
    | true =>
      have hS := hid hS
      go_enter Try.func34, Try.ntmps34
      go_wp2_with fail
      refine (messageExists_as hM.out _).mono ?_
      rintro e w' ⟨rfl, rfl⟩
      go_wp2_with fail
      refine (StampValidI_as hS.out _).mono ?_
      rintro e w1 ⟨rfl, hb1⟩
      have hB1 := hid (hB0.out.trans (hb1.mono (by simp; omega)))
      have hG1 := hid (hG0.out.step hb1)
      have hE1 := hid (hE0.out.step hb1)
      obtain ⟨q0, q1, q2, q3⟩ := hG1.out.four
      obtain ⟨e0, e1, e2, e3⟩ := hE1.out.four
      clear hb1 hG0 hE0 hB0
      by_cases hC : ck < t
      · have R := hid (okE_no (id := id) (ck := ck) (m := m) (t := t) (g := g) (f := f) (.inr (.inr (.inl hC))))
        go_wp2
        go_ret
        exact ⟨by rw [R.out]; rfl, hB1.out⟩
      · cases f with
        | true =>
          have R := hid (okE_yes (id := id) (ck := ck) (f := true) (g := g) hM.out hS.out (by omega) (.inl rfl))
          go_wp2
          go_ret
          exact ⟨by rw [R.out]; rfl, hB1.out⟩
        | false =>
          have R : Hid (okE id ck (m, (t, g), false) = (g == id)) := hid (by
            by_cases hg : g = id
            · rw [okE_yes (id := id) (ck := ck) (f := false) hM.out hS.out (by omega) (.inr hg)]; simp [hg]
            · rw [okE_no (.inr (.inr (.inr ⟨rfl, hg⟩)))]; simp [hg])
          go_wp2
          go_ret
          exact ⟨by rw [R.out]; rfl, hB1.out⟩

theorem mayHave_as {n1 c1 n2 c2 : Nat} {A1 A2 : Option Addr} {id ck m t g : Int} {f r : Bool} (h : okE id ck (m, (t, g), f) = r) (w : World) :
    Calls Try.prog 34 #[gpV id ck (.slice A1 n1 c1) (.slice A2 n2 c2), enV m t g f] w fun e w' => e = .returned (.bool r) ∧ Below w.heap.size w w' := by
  subst h; exact mayHave_any id ck m t g f w

set_option maxHeartbeats 400000 in
theorem proposed_any (m t g : Int) (f : Bool) (w : World) :
    Calls Try.prog 25 #[enV m t g f] w fun e w' => e = .returned (.bool (!f)) ∧ Below w.heap.size w w' := by
  have hB0 := hid (below1 w (.cells #[.int .i64 m, .int .i64 t, .int .i64 g, .bool f] 40))
  go_enter Try.func25, Try.ntmps25
  go_wp2
  go_ret
  exact ⟨rfl, hB0.out⟩

def blkB (P : List En) : Bool := match P with | [] => true | e :: _ => !e.2.2

set_option maxHeartbeats 400000 in
theorem blocked_any {n c : Nat} {A : Option Addr} {zs : List En} (w : World) (hr : RdE w w.heap.size A n zs) :
    Calls Try.prog 26 #[.slice A n c] w fun e w' => e = .returned (.bool (blkB zs)) ∧ w = w' := by
  by_cases h0 : n = 0
  · have R : Hid (blkB zs = true) := hid (by
      have := hr.len
      rw [h0] at this
      rw [List.eq_nil_of_length_eq_zero this]; rfl)
    have hz : ((n : Int) == 0) = true := by simp [h0]
    clear h0 hr
    go_enter Try.func26, Try.ntmps26
    go_wp2
    go_ret
    exact ⟨by rw [R.out]; rfl, rfl⟩
  · have h01 : 0 < n := by omega
    obtain ⟨b, off, m, t, g, f, rfl, hx, hb, d0, d1, d2, d3⟩ := hr.at_ h01
    simp only [Nat.zero_mul, Nat.add_zero] at d0 d1 d2 d3
    have R : Hid (blkB zs = !f) := by
      have := hx.out
      cases zs with
      | nil => simp at this
      | cons p l => simp at this; rw [this]; exact hid rfl
    have hz : ((n : Int) == 0) = false := by simp; omega
    have n1i : (0 : Int) < (n : Int) := by omega
    clear h0 hr hx
    go_enter Try.func26, Try.ntmps26
    go_wp2
    go_ret
    exact ⟨by rw [R.out]; rfl, rfl⟩

set_option maxHeartbeats 1000000 in
theorem IndexProposed_any {n c : Nat} {A : Option Addr} {zs : List En} (w : World) (hr : RdE w w.heap.size A n zs) (hn : n < 1099511627776) :
    Calls Try.prog 35 #[.slice A n c, .func (.func 25) #[] #[]] w fun e w' => (∃ k : Int, e = .returned (.int .i64 k) ∧ decide (k ≥ 0) = zs.any fun e => !e.2.2) ∧ Below w.heap.size w w' := by
  have hlen := hid hr.len
  have h' := hid hr
  clear hr
  go_enter Try.func35, Try.ntmps35
  go_wp2
  go_loopw [8] (fun i wr => ∃ k : Nat, k ≤ n ∧ i = .int .i64 k ∧ Hid (∀ (j : Nat) (x : En), j < k → zs[j]? = some x → x.2.2 = true) ∧ Hid (Below w.heap.size w wr)) (fun i _ => n - (intOf i).toNat)
  case atStart => exact ⟨0, by omega, rfl, hid (fun j x hj => by omega), hid (Below.refl _ _)⟩
  case round =>
    obtain ⟨k, hk, rfl, hall, hB⟩ := hrel
    by_cases hlt : k < n
    · obtain ⟨b, off, m, t, g, f, rfl, hx, hb, c0, c1, c2, c3⟩ := (h'.out.below hB.out).at_ hlt
      cases f with
      | false =>
        have R := hid (show (zs.any fun e => !e.2.2) = true from List.any_eq_true.2 ⟨_, List.mem_of_getElem? hx.out, rfl⟩)
        go_wp2_with fail
        refine (proposed_any _ _ _ _ _).mono ?_
        rintro e w2 ⟨rfl, hb2⟩
        have B2 := hid (hB.out.trans (hb2.mono hB.out.size))
        clear hb2
        go_wp2
        go_ret
        exact ⟨⟨k, rfl, by rw [R.out]; simp⟩, B2.out⟩
      | true =>
        go_wp2_with fail
        refine (proposed_any _ _ _ _ _).mono ?_
        rintro e w2 ⟨rfl, hb2⟩
        have B2 := hid (hB.out.trans (hb2.mono hB.out.size))
        clear hb2
        go_wp2
        go_roundw
        case rel => exact ⟨k + 1, by omega, by go_num, hid (fun j x hj hjx => by
              by_cases e : j = k
              · subst e
                have := hx.out.symm.trans hjx
                injection this with this
                subst this
                rfl
              · exact hall.out j x (by omega) hjx), B2⟩
        case measure => simp [intOf]; omega
    · have R := hid (show (zs.any fun e => !e.2.2) = false from by
        rw [List.any_eq_false]
        intro x hx
        obtain ⟨j, hj, e1⟩ := List.getElem_of_mem hx
        have := hall.out j x (by rw [hlen.out] at hj; omega) (by rw [List.getElem?_eq_getElem hj, e1])
        simp [this])
      go_wp2
      go_ret
      exact ⟨⟨-1, rfl, by rw [R.out]; simp⟩, hB.out⟩

set_option maxHeartbeats 400000 in
theorem ContainsProposed_any {n c : Nat} {A : Option Addr} {zs : List En} (w : World) (hr : RdE w w.heap.size A n zs) (hn : n < 1099511627776) :
    Calls Try.prog 27 #[.slice A n c, .func (.func 25) #[] #[]] w fun e w' => e = .returned (.bool (zs.any fun e => !e.2.2)) ∧ Below w.heap.size w w' := by
  have h' := hid hr
  clear hr
  go_enter Try.func27, Try.ntmps27
  go_wp2_with fail
  refine (IndexProposed_any _ h'.out hn).mono ?_
  rintro e w1 ⟨⟨k, rfl, hk⟩, hb⟩
  have R := hid hk
  have hb := hid hb
  clear hk
  go_wp2
  go_ret
  exact ⟨by rw [← R.out]; rfl, hb.out⟩
end Go.Proofs.Ytbgkinaoelicnaa

namespace Go.Proofs.Ytbgkinaoelicnaa
open Go.RowKit
set_option linter.unusedVariables false

/-- which messages have been found -/
def fndL (L : List En) : List Bool := (List.range 12).map fun (i : Nat) => L.any fun e => e.1 == (i : Int)

def fndC (L : List En) : Array Value := ((fndL L).map Value.bool).toArray

theorem fndC_get {L : List En} {m : Int} (h0 : 0 ≤ m) (h1 : m ≤ 11) : (fndC L)[m.toNat]? = some (.bool (L.any fun e => e.1 == m)) := by
  have h2 : m.toNat < 12 := by omega
  have h3 : ((m.toNat : Nat) : Int) = m := by omega
  simp [fndC, fndL, h2, h3]

theorem fndC_set {L : List En} {x : En} (h0 : 0 ≤ x.1) (h1 : x.1 ≤ 11) : (fndC L).setIfInBounds x.1.toNat (.bool true) = fndC (L ++ [x]) := by
  unfold fndC fndL
  rw [List.setIfInBounds_toArray]
  congr 1
  apply List.ext_getElem (by simp)
  intro i h2 h3
  have hi : i < 12 := by simpa using h3
  by_cases e : x.1.toNat = i
  · subst e
    have : ((x.1.toNat : Nat) : Int) = x.1 := by omega
    simp [this]
  · have : (x.1 == (i : Int)) = false := by rw [beq_eq_false_iff_ne]; omega
    simp [e, this]
/-- the stamp of the last of the first J entries -/
def lastK (T : List En) (J : Nat) : St := if J = 0 then (0, 0) else keyE T (J - 1)

theorem lastK_less {T : List En} {J : Nat} {x : En} (hx : T[J]? = some x) (hs : okS x.2.1 = true) : ltS (lastK T J) x.2.1 = true ↔ ∀ y, 0 < J → T[J - 1]? = some y → ltS y.2.1 x.2.1 = true := by
  unfold lastK
  by_cases h : J = 0
  · rw [if_pos h]
    obtain ⟨h1, _⟩ := stB_true.1 hs
    exact ⟨fun _ y h0 => by omega, fun _ => lexB_true.2 (.inl (by show (0 : Int) < x.2.1.1; omega))⟩
  · rw [if_neg h]
    have hJ : J < T.length := (List.getElem?_eq_some_iff.1 hx).1
    have h1 : J - 1 < T.length := by omega
    have h2 := get_atE (xs := T) h1
    constructor
    · intro h3 y _ hy
      rw [h2] at hy; injection hy with hy; rw [← hy]; exact h3
    · intro h3; exact h3 _ (by omega) h2
/-- what lies in the call's own blocks when J entries have been looked at -/
def EvS (w wr : World) (id ck : Int) (vP vD : Value) (T : List En) (J : Nat) : Prop :=
  LsOk id ck (T.take J) ∧ Cs wr w.heap.size 36 #[.int .i64 id, .int .i64 ck, vP, vD] ∧ Cs wr (w.heap.size + 1) 65 (fndC (T.take J)) ∧
  Cs wr (w.heap.size + 1 + 1) 38 #[.int .i64 (lastK T J).1, .int .i64 (lastK T J).2] ∧ Cs wr (w.heap.size + 1 + 1 + 1) 34 #[vD, vP] ∧ Below w.heap.size w wr

theorem EvS.step {w wr w' : World} {id ck : Int} {vP vD : Value} {T : List En} {J : Nat} (h : EvS w wr id ck vP vD T J) (hb : Below wr.heap.size wr w') : EvS w w' id ck vP vD T J :=
  ⟨h.1, h.2.1.step hb, h.2.2.1.step hb, h.2.2.2.1.step hb, h.2.2.2.2.1.step hb, h.2.2.2.2.2.trans (hb.mono h.2.2.2.2.2.size)⟩

set_option maxRecDepth 100000 in
set_option maxHeartbeats 4000000 in
theorem entriesValid_any {n1 c1 n2 c2 : Nat} {A1 A2 : Option Addr} {P D : List En} (id ck : Int) (w : World) (hr : RdG w A1 n1 c1 A2 n2 c2 P D) :
    Calls Try.prog 24 #[gpV id ck (.slice A1 n1 c1) (.slice A2 n2 c2)] w fun e w' => e = .returned (.bool (lsB id ck (D ++ P))) ∧ Below w.heap.size w w' := by
  have hl1 := hid hr.rp.len
  have hl2 := hid hr.rd.len
  have hh1 := hr.h1
  have hh2 := hr.h2
  obtain ⟨W0, hW0⟩ : ∃ W0, ((((w.alloc (.cells #[.int .i64 id, .int .i64 ck, .slice A1 n1 c1, .slice A2 n2 c2] 36)).alloc (.cells #[.bool false, .bool false, .bool false, .bool false, .bool false, .bool false, .bool false, .bool false, .bool false, .bool false, .bool false, .bool false] 65)).alloc (.cells #[.int .i64 0, .int .i64 0] 38)).alloc (.cells #[.slice A2 n2 c2, .slice A1 n1 c1] 34)) = W0 := ⟨_, rfl⟩
  have hE0 : Hid (EvS w W0 id ck (.slice A1 n1 c1) (.slice A2 n2 c2) (D ++ P) 0) := hid (by
    rw [← hW0]
    refine ⟨LsOk.nil _ _, (((Cs.new w _ _).alloc _).alloc _).alloc _, ((Cs.new' _ _ _ (by simp)).alloc _).alloc _, (Cs.new' _ _ _ (by simp)).alloc _, Cs.new' _ _ _ (by simp), ((below3 w _ _ _).alloc (by simp; omega) _)⟩)
  have hr0 := hid (hr.below hE0.out.2.2.2.2.2)
  have hW0' := hid hW0
  have hr0' := hid hr
  clear hr hW0
  go_enter Try.func24, Try.ntmps24
  go_wp2
  rw [hW0'.out]
  go_loopw [16] (fun i wr => ∃ o J : Nat, o ≤ 2 ∧ i = .int .i64 o ∧ Hid ((o = 0 ∧ J = 0) ∨ (o = 1 ∧ J = n2) ∨ (o = 2 ∧ J = n2 + n1)) ∧ Hid (EvS w wr id ck (.slice A1 n1 c1) (.slice A2 n2 c2) (D ++ P) J) ∧ Hid (RdG wr A1 n1 c1 A2 n2 c2 P D)) (fun i _ => 2 - (intOf i).toNat)
  case atStart => exact ⟨0, 0, by omega, rfl, hid (.inl ⟨rfl, rfl⟩), hE0, hr0⟩
  case round =>
    obtain ⟨o, J, ho, rfl, hoJ, hE, hr⟩ := hrel
    by_cases hlt : o < 2
    · obtain ⟨X, Ax, nx, cx, hcell, hX, hXw, hnx, hXT, hnext⟩ : ∃ (X : List En) (Ax : Option Addr) (nx cx : Nat), wr.cell? ⟨w.heap.size + 1 + 1 + 1, o, none⟩ = some (.slice Ax nx cx) ∧ Hid (RdE wr wr.heap.size Ax nx X) ∧ Hid (RdE w w.heap.size Ax nx X) ∧ nx < 1099511627776 ∧ Hid (∀ k, k < nx → (D ++ P)[J + k]? = X[k]?) ∧
          Hid ((o + 1 = 0 ∧ J + nx = 0) ∨ (o + 1 = 1 ∧ J + nx = n2) ∨ (o + 1 = 2 ∧ J + nx = n2 + n1)) := by
        have hS := hE.out.2.2.2.2.1
        rcases hoJ.out with ⟨h1, h2⟩ | ⟨h1, h2⟩ | ⟨h1, _⟩
        · subst h1; subst h2
          exact ⟨D, A2, n2, c2, hS.cell 0, hr.out.rd, hid hr0'.out.rd, hh2, hid (fun k hk => by rw [Nat.zero_add, List.getElem?_append_left (by rw [hl2.out]; exact hk)]), hid (.inr (.inl ⟨rfl, by omega⟩))⟩
        · subst h1; subst h2
          exact ⟨P, A1, n1, c1, hS.cell 1, hr.out.rp, hid hr0'.out.rp, hh1, hid (fun k hk => by rw [List.getElem?_append_right (by rw [hl2.out]; omega), hl2.out]; congr 1; omega), hid (.inr (.inr ⟨rfl, by omega⟩))⟩
        · omega
      have hgo := hE.out.2.2.2.2.1.lt
      have hod : decide ((o : Int) < 2) = true := by simp; omega
      go_wp2
      go_loopw [22] (fun i wx => ∃ k : Nat, k ≤ nx ∧ i = .int .i64 k ∧ Hid (EvS w wx id ck (.slice A1 n1 c1) (.slice A2 n2 c2) (D ++ P) (J + k)) ∧ Hid (RdE wx wx.heap.size Ax nx X) ∧ Hid (RdG wx A1 n1 c1 A2 n2 c2 P D)) (fun i _ => nx - (intOf i).toNat)
      case atStart => exact ⟨0, Nat.zero_le _, rfl, hE, hX, hr⟩
      case round =>
        obtain ⟨k, hk, rfl, hE, hX, hr⟩ := hrel
        by_cases hlt2 : k < nx
        · obtain ⟨b, off, m, t, g, f, rfl, hx, hb, c0, c1', c2', c3⟩ := hX.out.at_ hlt2
          have hxT : Hid ((D ++ P)[J + k]? = some (m, (t, g), f)) := hid ((hXT.out k hlt2).trans hx.out)
          have hbe : b < wr.heap.size := hb
          have W1 := below1 wr (.cells #[.int .i64 m, .int .i64 t, .int .i64 g, .bool f] 40)
          have hN1 := hid (Cs.new wr 40 #[.int .i64 m, .int .i64 t, .int .i64 g, .bool f])
          have hE1 := hid (hE.out.step W1)
          have hX1 := hid ((hX.out.below W1).more W1.size)
          have hr1 := hid (hr.out.below W1)
          obtain ⟨q0, q1, q2, q3⟩ := hE1.out.2.1.four
          clear W1
          cases hO : okE id ck (m, (t, g), f) with
          | false =>
            have R := hid (ls_bad (id := id) (ck := ck) hxT.out (fun h => by rw [hO] at h; cases h.1))
            have hO := hid hO
            go_wp2_with fail
            refine (mayHave_as hO.out _).mono ?_
            rintro e w2 ⟨rfl, hb2⟩
            have hE2 := hid (hE1.out.step hb2)
            clear hb2
            go_wp2
            go_ret
            exact ⟨by rw [R.out]; rfl, hE2.out.2.2.2.2.2⟩
          | true =>
            obtain ⟨o1, o2, _, _⟩ := okE_true.1 hO
            obtain ⟨m0, m1⟩ := inB_true.1 o1
            simp only at m0 m1
            have hO := hid hO
            go_wp2_with fail
            refine (mayHave_as hO.out _).mono ?_
            rintro e w2 ⟨rfl, hb2⟩
            have hE2 := hid (hE1.out.step hb2)
            have hN2 := hid (hN1.out.step hb2)
            have hX2 := hid ((hX1.out.below hb2).more hb2.size)
            have hr2 := hid (hr1.out.below hb2)
            obtain ⟨e0, e1, e2, e3⟩ := hN2.out.four
            have f0 : w2.cell? ⟨w.heap.size + 1, m.toNat, none⟩ = some (.bool (((D ++ P).take (J + k)).any fun e => e.1 == m)) := (hE2.out.2.2.1.cell _).trans (fndC_get m0 m1)
            have l0 : w2.cell? ⟨w.heap.size + 1 + 1, 0, none⟩ = some (.int .i64 (lastK (D ++ P) (J + k)).1) := hE2.out.2.2.2.1.cell 0
            have l1 : w2.cell? ⟨w.heap.size + 1 + 1, 1, none⟩ = some (.int .i64 (lastK (D ++ P) (J + k)).2) := hE2.out.2.2.2.1.cell 1
            have m2 : m < 12 := by omega
            clear hb2 q0 q1 q2 q3 hE1 hX1 hr1 hN1
            cases hF : ((D ++ P).take (J + k)).any fun e => e.1 == m with
            | true =>
              have R := hid (ls_bad (id := id) (ck := ck) hxT.out (fun h => by
                obtain ⟨y, hy, he⟩ := List.any_eq_true.1 hF
                exact h.2.2 y hy (by simpa using he)))
              rw [hF] at f0
              clear hF
              go_wp2
              go_ret
              exact ⟨by rw [R.out]; rfl, hE2.out.2.2.2.2.2⟩
            | false =>
              rw [hF] at f0
              have hnone : Hid (∀ y ∈ (D ++ P).take (J + k), y.1 ≠ m) := hid (fun y hy he => by
                rw [List.any_eq_false] at hF
                exact hF y hy (by simp [he]))
              clear hF
              have hLL := lastK_less hxT.out o2
              cases hL : lexB (lastK (D ++ P) (J + k)).1 (lastK (D ++ P) (J + k)).2 t g with
              | false =>
                have R := hid (ls_bad (id := id) (ck := ck) hxT.out (fun h => by
                  have := hLL.2 h.2.1
                  rw [show ltS (lastK (D ++ P) (J + k)) (t, g) = false from hL] at this; cases this))
                have hL := hid hL
                clear hLL
                go_wp2_with fail
                refine (lessM_as hL.out _).mono ?_
                rintro e w3 ⟨rfl, hb3⟩
                have hE3 := hid (hE2.out.step hb3)
                clear hb3
                go_wp2
                go_ret
                exact ⟨by rw [R.out]; rfl, hE3.out.2.2.2.2.2⟩
              | true =>
                have hprev := hid (hLL.1 hL)
                have hL := hid hL
                clear hLL
                go_wp2_with fail
                refine (lessM_as hL.out _).mono ?_
                rintro e w3 ⟨rfl, hb3⟩
                have hE3 := hid (hE2.out.step hb3)
                have hN3 := hid (hN2.out.step hb3)
                have hX3 := hid ((hX2.out.below hb3).more hb3.size)
                have hr3 := hid (hr2.out.below hb3)
                have z3 := hE3.out.2.2.2.2.1.lt
                obtain ⟨e0, e1, e2, e3⟩ := hN3.out.four
                have f0 : w3.cell? ⟨w.heap.size + 1, m.toNat, none⟩ = some (.bool (((D ++ P).take (J + k)).any fun e => e.1 == m)) := (hE3.out.2.2.1.cell _).trans (fndC_get m0 m1)
                have f1 := hE3.out.2.2.1.frozen m.toNat
                have l0 : w3.cell? ⟨w.heap.size + 1 + 1, 0, none⟩ = some (.int .i64 (lastK (D ++ P) (J + k)).1) := hE3.out.2.2.2.1.cell 0
                have l1 : w3.cell? ⟨w.heap.size + 1 + 1, 1, none⟩ = some (.int .i64 (lastK (D ++ P) (J + k)).2) := hE3.out.2.2.2.1.cell 1
                have l2 := hE3.out.2.2.2.1.frozen 0
                have l3 := hE3.out.2.2.2.1.frozen 1
                have hNb : wr.heap.size ≠ w.heap.size + 1 := by have := hE.out.2.2.2.2.1.lt; omega
                have hNs : Hid (∀ (u v : Value), EvS w (((w3.setCell ⟨w.heap.size + 1, m.toNat, none⟩ (.bool true)).setCell ⟨w.heap.size + 1 + 1, 0, none⟩ (.int .i64 t)).setCell ⟨w.heap.size + 1 + 1, 1, none⟩ (.int .i64 g)) id ck (.slice A1 n1 c1) (.slice A2 n2 c2) (D ++ P) (J + k + 1)) := hid (fun _ _ => by
                  obtain ⟨a0, a1, a2, a3, a4, a5⟩ := hE3.out
                  refine ⟨ls_next hE.out.1 hxT.out hO.out hprev.out hnone.out, ((a1.far (by simp) _).far (by simp; omega) _).far (by simp; omega) _, ?_, ?_, ((a4.far (by simp; omega) _).far (by simp) _).far (by simp) _, ((a5.setCell (by simp) _).setCell (by simp; omega) _).setCell (by simp; omega) _⟩
                  · have h9 := ((a2.set m.toNat (.bool true)).far (p := ⟨w.heap.size + 1 + 1, 0, none⟩) (by simp) (.int .i64 t)).far (p := ⟨w.heap.size + 1 + 1, 1, none⟩) (by simp) (.int .i64 g)
                    rw [fndC_set (x := (m, (t, g), f)) m0 m1] at h9
                    rw [take_snocE hxT.out]; exact h9
                  · have h9 := ((a3.far (p := ⟨w.heap.size + 1, m.toNat, none⟩) (by simp) (.bool true)).set 0 (.int .i64 t)).set 1 (.int .i64 g)
                    have h8 : lastK (D ++ P) (J + k + 1) = (t, g) := by
                      unfold lastK
                      rw [if_neg (by omega), Nat.add_sub_cancel, keyE, atE_get hxT.out]
                    rw [h8]; exact h9)
                have hR : Hid (RdG (((w3.setCell ⟨w.heap.size + 1, m.toNat, none⟩ (.bool true)).setCell ⟨w.heap.size + 1 + 1, 0, none⟩ (.int .i64 t)).setCell ⟨w.heap.size + 1 + 1, 1, none⟩ (.int .i64 g)) A1 n1 c1 A2 n2 c2 P D) := hid (hr0'.out.below (hNs.out undef undef).2.2.2.2.2)
                have hXX : Hid (RdE (((w3.setCell ⟨w.heap.size + 1, m.toNat, none⟩ (.bool true)).setCell ⟨w.heap.size + 1 + 1, 0, none⟩ (.int .i64 t)).setCell ⟨w.heap.size + 1 + 1, 1, none⟩ (.int .i64 g)) (((w3.setCell ⟨w.heap.size + 1, m.toNat, none⟩ (.bool true)).setCell ⟨w.heap.size + 1 + 1, 0, none⟩ (.int .i64 t)).setCell ⟨w.heap.size + 1 + 1, 1, none⟩ (.int .i64 g)).heap.size (some ⟨b, off, none⟩) nx X) := hid ((hXw.out.below (hNs.out undef undef).2.2.2.2.2).more (hNs.out undef undef).2.2.2.2.2.size)
                clear hb3 hE2 hX2 hr2 hN2
                go_wp2
                go_roundw
                case rel => exact ⟨k + 1, by omega, by go_num, hid (hNs.out undef undef), hXX, hR⟩
                case measure => simp [intOf]; omega
        · obtain rfl : k = nx := by omega
          have hE9 := hE
          go_wp2
          go_roundw
          case rel => exact ⟨o + 1, J + k, by omega, by go_num, hnext, hE9, hr⟩
          case measure => simp [intOf]; omega
    · have R : Hid (lsB id ck (D ++ P) = true) := hid (lsB_true.2 (by
        have := hE.out.1
        have hJ : J = n2 + n1 := by
          rcases hoJ.out with h | h | h <;> omega
        rw [List.take_of_length_le (by rw [List.length_append, hl1.out, hl2.out]; omega)] at this
        exact this))
      go_wp2
      go_ret
      exact ⟨by rw [R.out]; rfl, hE.out.2.2.2.2.2⟩

theorem entriesValid_as {n1 c1 n2 c2 : Nat} {A1 A2 : Option Addr} {P D : List En} {id ck : Int} {r : Bool} (h : lsB id ck (D ++ P) = r) (w : World) (hr : RdG w A1 n1 c1 A2 n2 c2 P D) :
    Calls Try.prog 24 #[gpV id ck (.slice A1 n1 c1) (.slice A2 n2 c2)] w fun e w' => e = .returned (.bool r) ∧ Below w.heap.size w w' := by
  subst h; exact entriesValid_any id ck w hr

theorem blocked_as {n c : Nat} {A : Option Addr} {zs : List En} {r : Bool} (h : blkB zs = r) (w : World) (hr : RdE w w.heap.size A n zs) :
    Calls Try.prog 26 #[.slice A n c] w fun e w' => e = .returned (.bool r) ∧ w = w' := by
  subst h; exact blocked_any w hr

theorem blk_head (P : List En) : (P.head?.all fun e => !e.2.2) = blkB P := by cases P <;> rfl

theorem vd_impl {id ck : Int} {P D : List En} : vdB ⟨id, ck, P, D⟩ = true ↔ (grB id = true ∧ 0 ≤ ck ∧ ck ≤ 999 ∧ lsB id ck (D ++ P) = true ∧ blkB P = true ∧ (D.any fun e => !e.2.2) = false) := by
  rw [vdB_true]
  unfold Vd
  simp only
  rw [lsB_true, blk_head, List.any_eq_false]
  constructor
  · rintro ⟨h1, h2, h3, h4, h5, h6⟩
    exact ⟨h1, h2, h3, h4, h6, fun e he => by simp [h5 e he]⟩
  · rintro ⟨h1, h2, h3, h4, h5, h6⟩
    exact ⟨h1, h2, h3, h4, fun e he => by have := h6 e he; simpa using this, h5⟩

theorem vd_off {id ck : Int} {P D : List En} (h : grB id = false ∨ ck < 0 ∨ 999 < ck ∨ lsB id ck (D ++ P) = false ∨ blkB P = false) : vdB ⟨id, ck, P, D⟩ = false := by
  cases hv : vdB ⟨id, ck, P, D⟩ with
  | false => rfl
  | true =>
    obtain ⟨h1, h2, h3, h4, h5, _⟩ := vd_impl.1 hv
    rcases h with h | h | h | h | h
    · rw [h1] at h; cases h
    · omega
    · omega
    · rw [h4] at h; cases h
    · rw [h5] at h; cases h

set_option maxHeartbeats 4000000 in
theorem GroupValid_impl {n1 c1 n2 c2 : Nat} {A1 A2 : Option Addr} {P D : List En} (id ck : Int) (w : World) (hr : RdG w A1 n1 c1 A2 n2 c2 P D) :
    Calls Try.prog 14 #[gpV id ck (.slice A1 n1 c1) (.slice A2 n2 c2)] w fun e w' => e = .returned (.bool (vdB ⟨id, ck, P, D⟩)) ∧ Below w.heap.size w w' := by
  have hG0 := hid (Cs.new w 36 #[.int .i64 id, .int .i64 ck, .slice A1 n1 c1, .slice A2 n2 c2])
  have hB0 := hid (below1 w (.cells #[.int .i64 id, .int .i64 ck, .slice A1 n1 c1, .slice A2 n2 c2] 36))
  have hr0 := hid (hr.below hB0.out)
  have hh2 := hr.h2
  clear hr
  cases hI : grB id with
  | false =>
    have R := hid (vd_off (id := id) (ck := ck) (P := P) (D := D) (.inl hI))
    have hI := hid hI
    go_enter Try.func14, Try.ntmps14
    go_wp2_with (go_at_call 23; (with_reducible refine (groupExists_as hI.out _).mono ?_); rintro e w' ⟨rfl, rfl⟩)
    go_ret
    exact ⟨by rw [R.out]; rfl, hB0.out⟩
  | true =>
    have hI := hid hI
    by_cases hc0 : ck < 0
    · have R := hid (vd_off (id := id) (ck := ck) (P := P) (D := D) (.inr (.inl hc0)))
      go_enter Try.func14, Try.ntmps14
      go_wp2_with (go_at_call 23; (with_reducible refine (groupExists_as hI.out _).mono ?_); rintro e w' ⟨rfl, rfl⟩)
      go_ret
      exact ⟨by rw [R.out]; rfl, hB0.out⟩
    · by_cases hc1 : 999 < ck
      · have R := hid (vd_off (id := id) (ck := ck) (P := P) (D := D) (.inr (.inr (.inl hc1))))
        go_enter Try.func14, Try.ntmps14
        go_wp2_with (go_at_call 23; (with_reducible refine (groupExists_as hI.out _).mono ?_); rintro e w' ⟨rfl, rfl⟩)
        go_ret
        exact ⟨by rw [R.out]; rfl, hB0.out⟩
      · cases hE : lsB id ck (D ++ P) with
        | false =>
          have R := hid (vd_off (id := id) (ck := ck) (P := P) (D := D) (.inr (.inr (.inr (.inl hE)))))
          have hE := hid hE
          go_enter Try.func14, Try.ntmps14
          go_wp2_with fail
          refine (groupExists_as hI.out _).mono ?_
          rintro e w' ⟨rfl, rfl⟩
          go_wp2_with fail
          refine (entriesValid_as hE.out _ hr0.out).mono ?_
          rintro e w1 ⟨rfl, hb1⟩
          have hB1 := hid (hB0.out.trans (hb1.mono (by simp)))
          clear hb1
          go_wp2
          go_ret
          exact ⟨by rw [R.out]; rfl, hB1.out⟩
        | true =>
          have hE := hid hE
          have hv : Hid (blkB P = true → vdB ⟨id, ck, P, D⟩ = !(D.any fun e => !e.2.2)) := hid (fun hb => by
            cases hx : (D.any fun e => !e.2.2) with
            | false => exact vd_impl.2 ⟨hI.out, by omega, by omega, hE.out, hb, hx⟩
            | true =>
              cases hv : vdB ⟨id, ck, P, D⟩ with
              | false => rfl
              | true => have := (vd_impl.1 hv).2.2.2.2.2; rw [hx] at this; cases this)
          go_enter Try.func14, Try.ntmps14
          go_wp2_with fail
          refine (groupExists_as hI.out _).mono ?_
          rintro e w' ⟨rfl, rfl⟩
          go_wp2_with fail
          refine (entriesValid_as hE.out _ hr0.out).mono ?_
          rintro e w1 ⟨rfl, hb1⟩
          have hB1 := hid (hB0.out.trans (hb1.mono (by simp)))
          have hG1 := hid (hG0.out.step hb1)
          have hr1 := hid (hr0.out.below hb1)
          obtain ⟨q0, q1, q2, q3⟩ := hG1.out.four
          clear hb1
          cases hb : blkB P with
          | false =>
            have R := hid (vd_off (id := id) (ck := ck) (P := P) (D := D) (.inr (.inr (.inr (.inr hb)))))
            have hb := hid hb
            go_wp2_with fail
            refine (blocked_as hb.out _ hr1.out.rp).mono ?_
            rintro e w' ⟨rfl, rfl⟩
            go_wp2
            go_ret
            exact ⟨by rw [R.out]; rfl, hB1.out⟩
          | true =>
            have R := hid (hv.out hb)
            have hb := hid hb
            clear hv
            go_wp2_with fail
            refine (blocked_as hb.out _ hr1.out.rp).mono ?_
            rintro e w' ⟨rfl, rfl⟩
            go_wp2_with fail
            refine (ContainsProposed_any _ hr1.out.rd hh2).mono ?_
            rintro e w2 ⟨rfl, hb2⟩
            have hB2 := hid (hB1.out.trans (hb2.mono hB1.out.size))
            clear hb2
            go_wp2
            go_ret
            exact ⟨by rw [R.out]; rfl, hB2.out⟩

theorem GroupValidI_as {n1 c1 n2 c2 : Nat} {A1 A2 : Option Addr} {P D : List En} {id ck : Int} {r : Bool} (h : vdB ⟨id, ck, P, D⟩ = r) (w : World) (hr : RdG w A1 n1 c1 A2 n2 c2 P D) :
    Calls Try.prog 14 #[gpV id ck (.slice A1 n1 c1) (.slice A2 n2 c2)] w fun e w' => e = .returned (.bool r) ∧ Below w.heap.size w w' := by
  subst h; exact GroupValid_impl id ck w hr

theorem GroupValidS_as {n1 c1 n2 c2 : Nat} {A1 A2 : Option Addr} {P D : List En} {id ck : Int} {r : Bool} (h : vdB ⟨id, ck, P, D⟩ = r) (w : World) (hr : RdG w A1 n1 c1 A2 n2 c2 P D) :
    Calls Try.prog 10 #[gpV id ck (.slice A1 n1 c1) (.slice A2 n2 c2)] w fun e w' => e = .returned (.bool r) ∧ Below w.heap.size w w' := by
  subst h; exact GroupValid_spec id ck w hr
end Go.Proofs.Ytbgkinaoelicnaa

namespace Go.Proofs.Ytbgkinaoelicnaa
open Go.RowKit
set_option linter.unusedVariables false
set_option linter.unusedSimpArgs false

theorem ow_drew {w : World} {B : Nat} {v : Value} {zs : List En} (h : OwE w B v zs) : OwE w.drew B v zs := h

theorem grown_drewN {w w' : World} {r : Option Nat} (h : w.grownBy w' r) (n : Nat) : w.grownBy (w'.drewN n) r := ⟨h.os, h.tape, h.output, h.size, h.block⟩

theorem grown_cell {w w' : World} {b : Nat} (h : w.grownBy w' (some b)) (k : Nat) (u : Value) : w.grownBy (w'.setCell ⟨b, k, none⟩ u) (some b) :=
  ⟨h.os, h.tape, h.output, by rw [show (w'.setCell ⟨b, k, none⟩ u).heap.size = w'.heap.size by simp [World.setCell]]; exact h.size, fun i hi hne => (heap_setCell_other w' ⟨b, k, none⟩ i u (fun e => hne (by rw [e]))).trans (h.block i hi hne)⟩

theorem grown_put {w w' : World} {b : Nat} (h : w.grownBy w' (some b)) (k : Nat) (u0 u1 u2 u3 : Value) :
    w.grownBy ((((w'.setCell ⟨b, k, none⟩ u0).setCell ⟨b, k + 1, none⟩ u1).setCell ⟨b, k + 2, none⟩ u2).setCell ⟨b, k + 3, none⟩ u3) (some b) :=
  grown_cell (grown_cell (grown_cell (grown_cell h _ _) _ _) _ _) _ _

theorem OwE.rd {w : World} {B n c : Nat} {A : Option Addr} {zs : List En} (h : OwE w B (.slice A n c) zs) (hl : zs.length = n) : RdE w w.heap.size A n zs := by
  obtain ⟨A', c', e, hr, _⟩ := h.form
  injection e with e1 e2 e3
  subst e1
  rw [hl] at hr; exact hr
/-- a group of the call's own: two lists in two blocks -/
structure OwG (w : World) (lo : Nat) (A1 : Option Addr) (n1 c1 : Nat) (A2 : Option Addr) (n2 c2 : Nat) (P D : List En) : Prop where
  op : OwE w lo (.slice A1 n1 c1) P
  od : OwE w lo (.slice A2 n2 c2) D
  l1 : P.length = n1
  l2 : D.length = n2
  ne : ∀ b, (Value.slice A1 n1 c1).ownBlock = some b → (Value.slice A2 n2 c2).ownBlock ≠ some b

theorem OwE.cap {w : World} {B n c : Nat} {A : Option Addr} {zs : List En} (h : OwE w B (.slice A n c) zs) (hl : zs.length = n) : n ≤ c ∧ c ≤ 9223372036854775807 := by
  obtain ⟨A', c', e, _, h1, h2⟩ := h.form
  injection e with e1 e2 e3
  subst e3
  rw [hl] at h1
  exact ⟨h1, h2⟩
section
variable {w w' : World} {lo lo' n1 c1 n2 c2 : Nat} {A1 A2 : Option Addr} {P D : List En}

theorem OwG.rdg (h : OwG w lo A1 n1 c1 A2 n2 c2 P D) (h1 : n1 < 1099511627776) (h2 : n2 < 1099511627776) : RdG w A1 n1 c1 A2 n2 c2 P D :=
  ⟨h.op.rd h.l1, h.od.rd h.l2, h1, h2, (h.op.cap h.l1).1, (h.od.cap h.l2).1, (h.op.cap h.l1).2, (h.od.cap h.l2).2⟩

theorem OwG.below (h : OwG w lo A1 n1 c1 A2 n2 c2 P D) (hb : Below w.heap.size w w') : OwG w' lo A1 n1 c1 A2 n2 c2 P D := ⟨h.op.below hb, h.od.below hb, h.l1, h.l2, h.ne⟩

theorem OwG.more (h : OwG w lo A1 n1 c1 A2 n2 c2 P D) (hl : lo' ≤ lo) : OwG w lo' A1 n1 c1 A2 n2 c2 P D := ⟨h.op.more hl, h.od.more hl, h.l1, h.l2, h.ne⟩
end

theorem OwE.lit0 (w : World) {b : Nat} (h : w.heap.size = b) : OwE (w.alloc (.cells #[] 40)) b (.slice (some ⟨b, 0, none⟩) 0 0) [] := by
  subst h; exact OwE.empty_lit w (Nat.le_refl _)

theorem OwE.setFar {w : World} {B : Nat} {v : Value} {zs : List En} (h : OwE w B v zs) {p : Addr} (hp : v.ownBlock ≠ some p.block) (u : Value) : OwE (w.setCell p u) B v zs :=
  h.of_block fun g hg => Below.heap_setCell w p u g (fun e => hp (by rw [hg, e]))

theorem OwE.lt_of {w : World} {b : Nat} {v : Value} {zs : List En} (_ : OwE w b v zs) {W : World} (hz : W.heap.size = b) (hs : (W.alloc (.cells #[] 40)).heap.size ≤ w.heap.size) : b < w.heap.size := by
  rw [World.size_alloc, hz] at hs; omega
end Go.Proofs.Ytbgkinaoelicnaa
