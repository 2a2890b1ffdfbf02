/-
  Contracts of the program's GroupValid and what it calls. No condition but lengths below 2^40.
-/
import Derived.Test.YtbnmeedmeikepaaGmH
namespace Go.Proofs.Ytbnmeedmeikepaa
open Go.RowKit
set_option linter.unusedVariables false

theorem messageExists_as {m : Int} {r : Bool} (h : msB m = r) (w : World) : Calls Try.prog 24 #[.int .i64 m] w fun e w' => e = .returned (.bool r) ∧ w = w' := by
  subst h; exact messageExists_any m w

theorem StampValidI_as {t g : Int} {r : Bool} (h : stB t g = r) (w : World) : Calls Try.prog 34 #[two t g] w fun e w' => e = .returned (.bool r) ∧ Below w.heap.size w w' := by
  subst h; exact StampValid_impl t g w

theorem lessM_as {a b c d : Int} {r : Bool} (h : lexB a b c d = r) (w : World) : Calls Try.prog 55 #[two a b, two c d] w fun e w' => e = .returned (.bool r) ∧ Below w.heap.size w w' := by
  subst h; exact StampLessM a b c d w

theorem groupExists_as {n : Int} {r : Bool} (h : grB n = r) (w : World) : Calls Try.prog 43 #[.int .i64 n] w fun e w' => e = .returned (.bool r) ∧ w = w' := by
  subst h; exact groupExists_any n w

set_option maxHeartbeats 2000000 in
theorem mayHave_any {n1 c1 n2 c2 : Nat} {A1 A2 : Option Addr} (id ck m t g : Int) (f : Bool) (w : World) :
    Calls Try.prog 58 #[gpV id ck (.slice A1 n1 c1) (.slice A2 n2 c2), enV m t g f] w fun e w' => e = .returned (.bool (okE id ck (m, (t, g), f))) ∧ Below w.heap.size w w' := by
  have hG0 : Hid (Cs ((w.alloc (.cells #[.int .i64 id, .int .i64 ck, .slice A1 n1 c1, .slice A2 n2 c2] 25)).alloc (.cells #[.int .i64 m, .int .i64 t, .int .i64 g, .bool f] 34)) w.heap.size 25 #[.int .i64 id, .int .i64 ck, .slice A1 n1 c1, .slice A2 n2 c2]) := hid ((Cs.new w _ _).alloc _)
  have hE0 : Hid (Cs ((w.alloc (.cells #[.int .i64 id, .int .i64 ck, .slice A1 n1 c1, .slice A2 n2 c2] 25)).alloc (.cells #[.int .i64 m, .int .i64 t, .int .i64 g, .bool f] 34)) (w.heap.size + 1) 34 #[.int .i64 m, .int .i64 t, .int .i64 g, .bool f]) := hid (by
    have := Cs.new (w.alloc (.cells #[.int .i64 id, .int .i64 ck, .slice A1 n1 c1, .slice A2 n2 c2] 25)) 34 #[.int .i64 m, .int .i64 t, .int .i64 g, .bool f]
    rwa [World.size_alloc] at this)
  have hB0 := hid (below2 w (.cells #[.int .i64 id, .int .i64 ck, .slice A1 n1 c1, .slice A2 n2 c2] 25) (.cells #[.int .i64 m, .int .i64 t, .int .i64 g, .bool f] 34))
  cases hM : msB m with
  | false =>
    have R := hid (okE_no (id := id) (ck := ck) (m := m) (t := t) (g := g) (f := f) (.inl hM))
    have hM := hid hM
    go_enter Try.func58, Try.ntmps58
    go_wp2_with (go_at_call 24; (with_reducible refine (messageExists_as hM.out _).mono ?_); rintro e w' ⟨rfl, rfl⟩)
    go_ret
    exact ⟨by rw [R.out]; rfl, hB0.out⟩
  | true =>
    have hM := hid hM
    cases hS : stB t g with
    | false =>
      have R := hid (okE_no (id := id) (ck := ck) (m := m) (t := t) (g := g) (f := f) (.inr (.inl hS)))
      have hS := hid hS
      go_enter Try.func58, Try.ntmps58
      go_wp2_with (first
        | (go_at_call 24; (with_reducible refine (messageExists_as hM.out _).mono ?_); rintro e w' ⟨rfl, rfl⟩)
        | (go_at_call 34; (with_reducible refine (StampValidI_as hS.out _).mono ?_); rintro e w1 ⟨rfl, hb1⟩))
      go_ret
      exact ⟨by rw [R.out]; rfl, hB0.out.trans (hb1.mono (by simp; omega))⟩
    | true =>
      have hS := hid hS
      go_enter Try.func58, Try.ntmps58
      go_wp2_with fail
      refine (messageExists_as hM.out _).mono ?_
      rintro e w' ⟨rfl, rfl⟩
      go_wp2_with fail
      refine (StampValidI_as hS.out _).mono ?_
      rintro e w1 ⟨rfl, hb1⟩
      have hB1 := hid (hB0.out.trans (hb1.mono (by simp; omega)))
      have hG1 := hid (hG0.out.step hb1)
      have hE1 := hid (hE0.out.step hb1)
      obtain ⟨q0, q1, q2, q3⟩ := hG1.out.four
      obtain ⟨e0, e1, e2, e3⟩ := hE1.out.four
      clear hb1 hG0 hE0 hB0
      by_cases hC : ck < t
      · have R := hid (okE_no (id := id) (ck := ck) (m := m) (t := t) (g := g) (f := f) (.inr (.inr (.inl hC))))
        go_wp2
        go_ret
        exact ⟨by rw [R.out]; rfl, hB1.out⟩
      · cases f with
        | true =>
          have R := hid (okE_yes (id := id) (ck := ck) (f := true) (g := g) hM.out hS.out (by omega) (.inl rfl))
          go_wp2
          go_ret
          exact ⟨by rw [R.out]; rfl, hB1.out⟩
        | false =>
          have R : Hid (okE id ck (m, (t, g), false) = (g == id)) := hid (by
            by_cases hg : g = id
            · rw [okE_yes (id := id) (ck := ck) (f := false) hM.out hS.out (by omega) (.inr hg)]; simp [hg]
            · rw [okE_no (.inr (.inr (.inr ⟨rfl, hg⟩)))]; simp [hg])
          go_wp2
          go_ret
          exact ⟨by rw [R.out]; rfl, hB1.out⟩

theorem mayHave_as {n1 c1 n2 c2 : Nat} {A1 A2 : Option Addr} {id ck m t g : Int} {f r : Bool} (h : okE id ck (m, (t, g), f) = r) (w : World) :
    Calls Try.prog 58 #[gpV id ck (.slice A1 n1 c1) (.slice A2 n2 c2), enV m t g f] w fun e w' => e = .returned (.bool r) ∧ Below w.heap.size w w' := by
  subst h; exact mayHave_any id ck m t g f w

set_option maxHeartbeats 400000 in
theorem proposed_any (m t g : Int) (f : Bool) (w : World) :
    Calls Try.prog 45 #[enV m t g f] w fun e w' => e = .returned (.bool (!f)) ∧ Below w.heap.size w w' := by
  have hB0 := hid (below1 w (.cells #[.int .i64 m, .int .i64 t, .int .i64 g, .bool f] 34))
  go_enter Try.func45, Try.ntmps45
  go_wp2
  go_ret
  exact ⟨rfl, hB0.out⟩

def blkB (P : List En) : Bool := match P with | [] => true | e :: _ => !e.2.2

set_option maxHeartbeats 400000 in
theorem blocked_any {n c : Nat} {A : Option Addr} {zs : List En} (w : World) (hr : RdE w w.heap.size A n zs) :
    Calls Try.prog 37 #[.slice A n c] w fun e w' => e = .returned (.bool (blkB zs)) ∧ w = w' := by
  by_cases h0 : n = 0
  · have R : Hid (blkB zs = true) := hid (by
      have := hr.len
      rw [h0] at this
      rw [List.eq_nil_of_length_eq_zero this]; rfl)
    have hz : ((n : Int) == 0) = true := by simp [h0]
    clear h0 hr
    go_enter Try.func37, Try.ntmps37
    go_wp2
    go_ret
    exact ⟨by rw [R.out]; rfl, rfl⟩
  · have h01 : 0 < n := by omega
    obtain ⟨b, off, m, t, g, f, rfl, hx, hb, d0, d1, d2, d3⟩ := hr.at_ h01
    simp only [Nat.zero_mul, Nat.add_zero] at d0 d1 d2 d3
    have R : Hid (blkB zs = !f) := by
      have := hx.out
      cases zs with
      | nil => simp at this
      | cons p l => simp at this; rw [this]; exact hid rfl
    have hz : ((n : Int) == 0) = false := by simp; omega
    have n1i : (0 : Int) < (n : Int) := by omega
    clear h0 hr hx
    go_enter Try.func37, Try.ntmps37
    go_wp2
    go_ret
    exact ⟨by rw [R.out]; rfl, rfl⟩

set_option maxHeartbeats 1000000 in
theorem IndexProposed_any {n c : Nat} {A : Option Addr} {zs : List En} (w : World) (hr : RdE w w.heap.size A n zs) (hn : n < 1099511627776) :
    Calls Try.prog 59 #[.slice A n c, .func (.func 45) #[] #[]] w fun e w' => (∃ k : Int, e = .returned (.int .i64 k) ∧ decide (k ≥ 0) = zs.any fun e => !e.2.2) ∧ Below w.heap.size w w' := by
  have hlen := hid hr.len
  have h' := hid hr
  clear hr
  go_enter Try.func59, Try.ntmps59
  go_wp2
  go_loopw [8] (fun i wr => ∃ k : Nat, k ≤ n ∧ i = .int .i64 k ∧ Hid (∀ (j : Nat) (x : En), j < k → zs[j]? = some x → x.2.2 = true) ∧ Hid (Below w.heap.size w wr)) (fun i _ => n - (intOf i).toNat)
  case atStart => exact ⟨0, by omega, rfl, hid (fun j x hj => by omega), hid (Below.refl _ _)⟩
  case round =>
    obtain ⟨k, hk, rfl, hall, hB⟩ := hrel
    by_cases hlt : k < n
    · obtain ⟨b, off, m, t, g, f, rfl, hx, hb, c0, c1, c2, c3⟩ := (h'.out.below hB.out).at_ hlt
      cases f with
      | false =>
        have R := hid (show (zs.any fun e => !e.2.2) = true from List.any_eq_true.2 ⟨_, List.mem_of_getElem? hx.out, rfl⟩)
        go_wp2_with fail
        refine (proposed_any _ _ _ _ _).mono ?_
        rintro e w2 ⟨rfl, hb2⟩
        have B2 := hid (hB.out.trans (hb2.mono hB.out.size))
        clear hb2
        go_wp2
        go_ret
        exact ⟨⟨k, rfl, by rw [R.out]; simp⟩, B2.out⟩
      | true =>
        go_wp2_with fail
        refine (proposed_any _ _ _ _ _).mono ?_
        rintro e w2 ⟨rfl, hb2⟩
        have B2 := hid (hB.out.trans (hb2.mono hB.out.size))
        clear hb2
        go_wp2
        go_roundw
        case rel => exact ⟨k + 1, by omega, by go_num, hid (fun j x hj hjx => by
              by_cases e : j = k
              · subst e
                have := hx.out.symm.trans hjx
                injection this with this
                subst this
                rfl
              · exact hall.out j x (by omega) hjx), B2⟩
        case measure => simp [intOf]; omega
    · have R := hid (show (zs.any fun e => !e.2.2) = false from by
        rw [List.any_eq_false]
        intro x hx
        obtain ⟨j, hj, e1⟩ := List.getElem_of_mem hx
        have := hall.out j x (by rw [hlen.out] at hj; omega) (by rw [List.getElem?_eq_getElem hj, e1])
        simp [this])
      go_wp2
      go_ret
      exact ⟨⟨-1, rfl, by rw [R.out]; simp⟩, hB.out⟩

set_option maxHeartbeats 400000 in
theorem ContainsProposed_any {n c : Nat} {A : Option Addr} {zs : List En} (w : World) (hr : RdE w w.heap.size A n zs) (hn : n < 1099511627776) :
    Calls Try.prog 46 #[.slice A n c, .func (.func 45) #[] #[]] w fun e w' => e = .returned (.bool (zs.any fun e => !e.2.2)) ∧ Below w.heap.size w w' := by
  have h' := hid hr
  clear hr
  go_enter Try.func46, Try.ntmps46
  go_wp2_with fail
  refine (IndexProposed_any _ h'.out hn).mono ?_
  rintro e w1 ⟨⟨k, rfl, hk⟩, hb⟩
  have R := hid hk
  have hb := hid hb
  clear hk
  go_wp2
  go_ret
  exact ⟨by rw [← R.out]; rfl, hb.out⟩
end Go.Proofs.Ytbnmeedmeikepaa
