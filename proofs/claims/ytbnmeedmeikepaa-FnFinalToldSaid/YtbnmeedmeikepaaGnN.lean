/-
  What the laws of chapter 11 need: groups compared, the mathematics of the answers, what the draws leave, live groups. No condition.
-/
import Derived.Test.YtbnmeedmeikepaaGmZ
import Derived.Test.YtbnmeedmeikepaaGmVs
import Derived.Test.YtbnmeedmeikepaaGmT
import Derived.Test.YtbnmeedmeikepaaGmE
import Derived.Test.YtbnmeedmeikepaaStG
import Derived.Deep.CutBlock
import Derived.Deep.DeepCutAuto
import Derived.Deep.RegionHeld3
namespace Go.Proofs.Ytbnmeedmeikepaa
open Go.RowKit
set_option linter.unusedVariables false
set_option linter.unusedSimpArgs false


set_option maxHeartbeats 4000000 in
theorem sameEntries_same {n c c' : Nat} {A A' : Option Addr} {zs : List En} (w : World) (h : RdE w w.heap.size A n zs) (k : RdE w w.heap.size A' n zs) (hn : n < 1099511627776) :
    Calls Try.prog 11 #[.slice A n c, .slice A' n c'] w fun e w' => e = .returned (.bool true) ∧ Below w.heap.size w w' := by
  have h' := hid h
  have k' := hid k
  clear h k
  go_enter Try.func11, Try.ntmps11
  go_wp2
  go_loopw [5] (fun i wr => ∃ j : Nat, j ≤ n ∧ i = .int .i64 j ∧ Hid (Below w.heap.size w wr)) (fun i _ => n - (intOf i).toNat)
  case atStart => exact ⟨0, by omega, rfl, hid (Below.refl _ _)⟩
  case round =>
    obtain ⟨j, hj, rfl, hB⟩ := hrel
    have hsz := hB.out.size
    by_cases hlt : j < n
    · obtain ⟨b, off, m, t, g, f, rfl, hx, hb, d0, d1, d2, d3⟩ := (h'.out.below hB.out).at_ hlt
      obtain ⟨b2, off2, m2, t2, g2, f2, rfl, hx2, hb2, f0, f1, f2', f3⟩ := (k'.out.below hB.out).at_ hlt
      have e := hx.out.symm.trans hx2.out
      injection e with e
      injection e with e1 e2
      injection e2 with e3 e4
      injection e3 with e5 e6
      subst e1; subst e4; subst e5; subst e6
      have i0 : (0 : Int) ≤ (j : Int) := by omega
      have i1 : (j : Int) < (n : Int) := by omega
      have C0 : ∀ x : BW wr, x.wd.cell? ⟨b, off + j * 4, none⟩ = some (.int .i64 m) := fun x => x.cell d0
      have C1 : ∀ x : BW wr, x.wd.cell? ⟨b, off + j * 4 + 1, none⟩ = some (.int .i64 t) := fun x => x.cell d1
      have C2 : ∀ x : BW wr, x.wd.cell? ⟨b, off + j * 4 + 2, none⟩ = some (.int .i64 g) := fun x => x.cell d2
      have C3 : ∀ x : BW wr, x.wd.cell? ⟨b, off + j * 4 + 3, none⟩ = some (.bool f) := fun x => x.cell d3
      have D0 : ∀ x : BW wr, x.wd.cell? ⟨b2, off2 + j * 4, none⟩ = some (.int .i64 m) := fun x => x.cell f0
      have D1 : ∀ x : BW wr, x.wd.cell? ⟨b2, off2 + j * 4 + 1, none⟩ = some (.int .i64 t) := fun x => x.cell f1
      have D2 : ∀ x : BW wr, x.wd.cell? ⟨b2, off2 + j * 4 + 2, none⟩ = some (.int .i64 g) := fun x => x.cell f2'
      have D3 : ∀ x : BW wr, x.wd.cell? ⟨b2, off2 + j * 4 + 3, none⟩ = some (.bool f) := fun x => x.cell f3
      have hff : (f == f) = true := by cases f <;> rfl
      clear d0 d1 d2 d3 f0 f1 f2' f3 hx hx2
      go_wp2_with fail
      refine wp_region_below (by kernel_rfl) (by kernel_rfl) ?_
      repeat (go_big_quiet_step (fail))
      refine wpQuiet_nil ?_
      intro w1 hb1
      have B5 := hid (hB.out.trans (hb1.mono hsz))
      clear hb1
      go_wp2
      go_roundw
      case rel => exact ⟨j + 1, by omega, by go_num, B5⟩
      case measure => simp [intOf]; omega
    · go_wp2
      go_ret
      exact ⟨rfl, hB.out⟩

set_option maxHeartbeats 2000000 in
theorem sameGroup_same {n1 c1 n2 c2 d1 d2 : Nat} {A1 A2 B1 B2 : Option Addr} {P D : List En} (i k : Int) (w : World) (h1 : RdE w w.heap.size A1 n1 P) (h2 : RdE w w.heap.size A2 n2 D) (h3 : RdE w w.heap.size B1 n1 P) (h4 : RdE w w.heap.size B2 n2 D) (hn1 : n1 < 1099511627776) (hn2 : n2 < 1099511627776) :
    Calls Try.prog 9 #[gpV i k (.slice A1 n1 c1) (.slice A2 n2 c2), gpV i k (.slice B1 n1 d1) (.slice B2 n2 d2)] w fun e w' => e = .returned (.bool true) ∧ Below w.heap.size w w' := by
  have C0 := hid ((Cs.new w 25 #[.int .i64 i, .int .i64 k, .slice A1 n1 c1, .slice A2 n2 c2]).alloc (.cells #[.int .i64 i, .int .i64 k, .slice B1 n1 d1, .slice B2 n2 d2] 25))
  have C1 := hid (Cs.new (w.alloc (.cells #[.int .i64 i, .int .i64 k, .slice A1 n1 c1, .slice A2 n2 c2] 25)) 25 #[.int .i64 i, .int .i64 k, .slice B1 n1 d1, .slice B2 n2 d2])
  have B := hid (below2 w (.cells #[.int .i64 i, .int .i64 k, .slice A1 n1 c1, .slice A2 n2 c2] 25) (.cells #[.int .i64 i, .int .i64 k, .slice B1 n1 d1, .slice B2 n2 d2] 25))
  have r1 := hid ((h1.below B.out).more B.out.size)
  have r2 := hid ((h2.below B.out).more B.out.size)
  have r3 := hid ((h3.below B.out).more B.out.size)
  have r4 := hid ((h4.below B.out).more B.out.size)
  clear h1 h2 h3 h4
  have e0 : (i == i) = true := by simp
  have e1 : (k == k) = true := by simp
  go_enter Try.func9, Try.ntmps9
  go_wp2_with fail
  refine (sameEntries_same _ r1.out r3.out hn1).mono ?_
  rintro e w1 ⟨rfl, hb1⟩
  have hB1 := hid (B.out.trans (hb1.mono (by simp; omega)))
  obtain ⟨c0', c1', c2', c3'⟩ := (C0.out.step hb1).four
  have D1 : Cs w1 (w.heap.size + 1) 25 #[.int .i64 i, .int .i64 k, .slice B1 n1 d1, .slice B2 n2 d2] := by simpa using C1.out.step hb1
  obtain ⟨d0', d1', d2', d3'⟩ := D1.four
  have s2 := hid ((r2.out.below hb1).more hb1.size)
  have s4 := hid ((r4.out.below hb1).more hb1.size)
  clear hb1 C0 C1 B D1 r1 r2 r3 r4
  go_wp2_with fail
  refine (sameEntries_same _ s2.out s4.out hn2).mono ?_
  rintro e w2 ⟨rfl, hb2⟩
  have hB2 := hid (hB1.out.trans (hb2.mono hB1.out.size))
  clear hb2 hB1 c0' c1' c2' c3' d0' d1' d2' d3'
  go_wp2
  go_ret
  exact ⟨rfl, hB2.out⟩

/-- what the draw of a message leaves -/
def MsgPost (B g P : Nat) (w : World) (e : Ending) (w' : World) : Prop :=
  ∃ m : Int, e = .returned (.int .i64 m) ∧ Rdr w' B g (P + 2) ∧ w.grownBy w' (some g)

set_option maxHeartbeats 2000000 in
theorem l91Message_any {B g P : Nat} (w : World) (h : Rdr w B g P) (hP : P ≤ 900000) :
    Calls Try.prog 22 #[.pointer (some ⟨g, 0, none⟩)] w (MsgPost B g P w) := by
  have hg := h.lt
  have h' := hid h
  clear h
  go_enter Try.func22, Try.ntmps22
  go_wp2_with fail
  refine (pick_any 24 _ h'.out (by omega) (by omega) (by omega)).mono ?_
  rintro e w1 ⟨x1, rfl, hx1, hy1, r1, q1, -⟩
  have hg1 := r1.lt
  have hs1 := q1.size
  have r1' := hid r1
  have q1' := hid q1
  clear r1 q1 h'
  by_cases h0 : x1 = 0
  · subst h0
    have hbb := below1 w1 (.cells #[.int .i64 (-1), .int .i64 11, .int .i64 12] 3)
    have r2 := hid (r1'.out.below hbb (by omega))
    have q2 := hid (grown_below q1'.out (hbb.mono (by omega)))
    have l2 : AtN (w1.alloc (.cells #[.int .i64 (-1), .int .i64 11, .int .i64 12] 3)) w1.heap.size 3 [-1, 11, 12] := heap_alloc_new w1 _
    have l2' := hid l2
    clear l2 hbb
    go_wp2_with fail
    refine (pick_any 3 _ r2.out (by omega) (by omega) (by omega)).mono ?_
    rintro e w3 ⟨x3, rfl, hx3, hy3, r3, q3, -⟩
    have l3 := hid (l2'.out.grown q3 (by omega))
    obtain ⟨j, rfl⟩ := Int.eq_ofNat_of_zero_le hx3
    obtain ⟨z, hz⟩ := l3.out.cell (k := j) (by simp; omega)
    have r4 := hid r3
    have q4 := hid (grown_set q2.out q3)
    clear r3 q3 l3 l2' r2 q2
    go_wp2
    go_ret
    exact ⟨_, rfl, r4.out, q4.out⟩
  · have hne : (x1 == 0) = false := by simp [h0]
    go_wp2_with fail
    refine (pick_any 8 _ r1'.out (by omega) (by omega) (by omega)).mono ?_
    rintro e w3 ⟨x3, rfl, hx3, hy3, r3, q3, -⟩
    have r4 := hid r3
    have q4 := hid (grown_set q1'.out q3)
    clear r3 q3 r1' q1'
    go_wp2
    go_ret
    exact ⟨_, rfl, r4.out, q4.out⟩

theorem pr_true {g g' : Gp} {m : Int} {s : St} (h : prR g m = (g', s, true)) : Vd g ∧ msB m = true ∧
    ((∃ e ∈ g.P, e.1 = m ∧ e.2.2 = false ∧ e.2.1 = s ∧ stA g m = (e, true) ∧ g' = g) ∨
     (stA g m = (en0, false) ∧ (∀ e ∈ g.P, e.1 ≠ m) ∧ (∀ e ∈ g.D, e.1 ≠ m) ∧ s = (g.ck + 1, g.id) ∧ g' = ⟨g.id, g.ck + 1, g.P ++ [(m, (g.ck + 1, g.id), false)], g.D⟩ ∧ Vd g')) := by
  unfold prR at h
  split at h
  · rename_i hb
    simp only [Bool.and_eq_true] at hb
    have hv := vdB_true.1 hb.1
    refine ⟨hv, hb.2, ?_⟩
    rcases prA_cases hv m hb.2 with ⟨e, he, e1, e2, hs, hp⟩ | ⟨_, hp⟩ | ⟨hs, hP, hD, ⟨_, hp⟩ | ⟨_, hp, hv'⟩⟩
    · rw [hp] at h
      simp only [Prod.mk.injEq, and_true] at h
      exact .inl ⟨e, he, e1, e2, h.2, hs, h.1.symm⟩
    · rw [hp] at h; simp at h
    · rw [hp] at h; simp at h
    · rw [hp] at h
      simp only [Prod.mk.injEq, and_true] at h
      exact .inr ⟨hs, hP, hD, h.2.symm, h.1.symm, by rw [← h.1]; exact hv'⟩
  · simp at h

theorem pr_valid {g g' : Gp} {m : Int} {s : St} (h : prR g m = (g', s, true)) : Vd g' := by
  obtain ⟨hv, _, ⟨_, _, _, _, _, _, rfl⟩ | ⟨_, _, _, _, _, hv'⟩⟩ := pr_true h
  · exact hv
  · exact hv'
/-- the proposed entry is known -/
theorem pr_entry {g g' : Gp} {m : Int} {s : St} (h : prR g m = (g', s, true)) : (m, s, false) ∈ g'.P ∧ stR g' m = ((m, s, false), true) := by
  obtain ⟨hv, hm, ⟨e, he, e1, e2, e3, hs, rfl⟩ | ⟨hs, hP, hD, rfl, rfl, hv'⟩⟩ := pr_true h
  · have : e = (m, s, false) := by rw [← e1, ← e2, ← e3]
    subst this
    exact ⟨he, by unfold stR; rw [if_pos (vdB_true.2 hv)]; exact hs⟩
  · have hin : ((m, (g.ck + 1, g.id), false) : En) ∈ g.P ++ [(m, (g.ck + 1, g.id), false)] := List.mem_append_right _ (List.mem_singleton.2 rfl)
    exact ⟨hin, by unfold stR; rw [if_pos (vdB_true.2 hv')]; exact stA_P hv' hin⟩

theorem pr_twice {g g' : Gp} {m : Int} {s : St} (h : prR g m = (g', s, true)) : prR g' m = (g', s, true) := by
  have hv := pr_valid h
  have hm := (pr_true h).2.1
  obtain ⟨hin, _⟩ := pr_entry h
  have hst := stA_P hv hin
  unfold prR
  rw [if_pos (by rw [vdB_true.2 hv, hm]; rfl)]
  rcases prA_cases hv m hm with ⟨e, he, e1, e2, hs, hp⟩ | ⟨⟨e, _, _, e2, hs⟩, hp⟩ | ⟨hs, _⟩
  · rw [hs] at hst
    simp only [Prod.mk.injEq, and_true] at hst
    rw [hp, hst]
  · rw [hs] at hst
    simp only [Prod.mk.injEq, and_true] at hst
    rw [hst] at e2; simp at e2
  · rw [hs] at hst; simp at hst
/-- what is known of the message ahead -/
theorem pr_known {g g' : Gp} {m : Int} {s : St} (h : prR g m = (g', s, true)) : (stR g m = ((m, s, false), true) ∧ g' = g) ∨ (stR g m = (en0, false) ∧ s = (g.ck + 1, g.id) ∧ g'.ck = g.ck + 1 ∧ g'.id = g.id ∧ g'.D = g.D ∧ g'.P = g.P ++ [(m, s, false)]) := by
  obtain ⟨hv, hm, ⟨e, he, e1, e2, e3, hs, rfl⟩ | ⟨hs, hP, hD, rfl, rfl, hv'⟩⟩ := pr_true h
  · have : e = (m, s, false) := by rw [← e1, ← e2, ← e3]
    subst this
    exact .inl ⟨by unfold stR; rw [if_pos (vdB_true.2 hv)]; exact hs, rfl⟩
  · exact .inr ⟨by unfold stR; rw [if_pos (vdB_true.2 hv)]; exact hs, rfl, rfl, rfl, rfl, rfl⟩
/-- the proposed stamp is greater than those of all others -/
theorem pr_less {g g' : Gp} {m : Int} {s : St} (h : prR g m = (g', s, true)) : (∀ e ∈ g.D, ltS e.2.1 s = true) ∧ (stR g m = (en0, false) → ∀ e ∈ g.P, ltS e.2.1 s = true) := by
  obtain ⟨hv, hm, ⟨e, he, e1, e2, e3, hs, rfl⟩ | ⟨hs, hP, hD, rfl, rfl, hv'⟩⟩ := pr_true h
  · refine ⟨fun d hd => ?_, fun hn => ?_⟩
    · rw [← e3]; exact (hv.lt hd he).1
    · unfold stR at hn; rw [if_pos (vdB_true.2 hv), hs] at hn; simp at hn
  · have hlt : ∀ e, e ∈ g.D ∨ e ∈ g.P → ltS e.2.1 (g.ck + 1, g.id) = true := fun e he => by
      have := (okE_true.1 (hv.ok he)).2.2.1
      exact lexB_true.2 (.inl (by show e.2.1.1 < g.ck + 1; omega))
    exact ⟨fun e he => hlt e (.inl he), fun _ e he => hlt e (.inr he)⟩
/-- a proposal that fails, in a valid group -/
theorem pr_fail {g g' : Gp} {m : Int} {s : St} (h : prR g m = (g', s, false)) (hv : vdB g = true) (hm : msB m = true) : g' = g ∧ s = (0, 0) ∧ ((∃ e, stR g m = (e, true) ∧ e.2.2 = true) ∨ (stR g m = (en0, false) ∧ g.ck = 999)) := by
  have hs' : ∀ e b, stA g m = (e, b) → stR g m = (e, b) := fun e b h => by unfold stR; rw [if_pos hv]; exact h
  unfold prR at h
  rw [if_pos (by rw [hv, hm]; rfl)] at h
  rcases prA_cases (vdB_true.1 hv) m hm with ⟨e, he, e1, e2, hs, hp⟩ | ⟨⟨e, _, _, e2, hs⟩, hp⟩ | ⟨hs, hP, hD, ⟨hc, hp⟩ | ⟨_, hp, hv'⟩⟩
  · rw [hp] at h; simp at h
  · rw [hp] at h
    simp only [Prod.mk.injEq, and_true] at h
    exact ⟨h.1.symm, h.2.symm, .inl ⟨e, hs' _ _ hs, e2⟩⟩
  · rw [hp] at h
    simp only [Prod.mk.injEq, and_true] at h
    exact ⟨h.1.symm, h.2.symm, .inr ⟨hs' _ _ hs, hc⟩⟩
  · rw [hp] at h; simp at h

theorem fi_true {g g' : Gp} {m : Int} {s : St} {T : List Int} (h : fiR g m s = (g', T, true)) : Vd g ∧ msB m = true ∧ okS s = true ∧ fiOk g m s = true ∧ g' = fiG g m s ∧ T = msgs (tld (ins g.P m s)) := by
  unfold fiR at h
  split at h
  · rename_i hb
    simp only [Bool.and_eq_true] at hb
    cases hf : fiOk g m s with
    | true =>
      rw [fiA_yes hf] at h
      simp only [Prod.mk.injEq, and_true] at h
      exact ⟨vdB_true.1 hb.1, hb.2.1, hb.2.2, rfl, h.1.symm, h.2.symm⟩
    | false => rw [fiA_no hf] at h; simp at h
  · simp at h

theorem fi_of {g : Gp} {m : Int} {s : St} (hv : vdB g = true) (hm : msB m = true) (hs : okS s = true) (hf : fiOk g m s = true) : fiR g m s = (fiG g m s, msgs (tld (ins g.P m s)), true) := by
  unfold fiR; rw [if_pos (by rw [hv, hm, hs]; rfl), fiA_yes hf]

theorem fi_valid {g g' : Gp} {m : Int} {s : St} {T : List Int} (h : fiR g m s = (g', T, true)) : Vd g' ∧ stR g' m = ((m, s, true), true) ∧ s.1 ≤ g'.ck ∧ g.ck ≤ g'.ck := by
  obtain ⟨hv, hm, hs, hf, rfl, _⟩ := fi_true h
  obtain ⟨x, hx⟩ := (fiOk_iff hv m s).1 hf
  have hv' := fiG_valid hv hx hm hs
  refine ⟨hv', ?_, ?_, ?_⟩
  · unfold stR; rw [if_pos (vdB_true.2 hv')]; exact fiG_entry hv hx hm hs
  · show s.1 ≤ max g.ck s.1; omega
  · show g.ck ≤ max g.ck s.1; omega
/-- a second final stamp is refused -/
theorem fi_twice {g g' : Gp} {m : Int} {s t : St} {T : List Int} (h : fiR g m s = (g', T, true)) : fiR g' m t = (if okS t then g' else gp0, [], false) := by
  obtain ⟨hv', hst, _, _⟩ := fi_valid h
  obtain ⟨_, hm, _⟩ := fi_true h
  have hno : fiOk g' m t = false := by
    cases hf : fiOk g' m t with
    | false => rfl
    | true =>
      obtain ⟨x, hx, e1, e2, _⟩ := (fiOk_iff hv' m t).1 hf
      have h1 := stA_P hv' hx
      unfold stR at hst
      rw [if_pos (vdB_true.2 hv'), ← e1, h1] at hst
      simp only [Prod.mk.injEq, and_true] at hst
      rw [hst] at e2; simp at e2
  unfold fiR
  rw [vdB_true.2 hv', hm]
  cases ht : okS t with
  | true => simp [fiA_no hno]
  | false => simp

theorem fi_told {g g' : Gp} {m : Int} {s : St} {T : List Int} (h : fiR g m s = (g', T, true)) : trR g' = trR g ++ T := by
  obtain ⟨hv', _⟩ := fi_valid h
  obtain ⟨hv, _, _, _, rfl, rfl⟩ := fi_true h
  unfold trR
  rw [if_pos (vdB_true.2 hv'), if_pos (vdB_true.2 hv)]
  show msgs (g.D ++ tld (ins g.P m s)) = _
  rw [msgs_app]
/-- the head of what is pending -/
theorem bl_head {g : Gp} {r : Int} (h : blR g = r) (h0 : 0 ≤ r) : ∃ e l, Vd g ∧ g.P = e :: l ∧ e.1 = r ∧ e.2.2 = false ∧ stR g r = (e, true) ∧ msB r = true ∧ okS e.2.1 = true := by
  unfold blR at h
  split at h
  · rename_i hb
    have hv := vdB_true.1 hb
    cases hP : g.P with
    | nil => rw [hP] at h; simp only at h; omega
    | cons e l =>
      rw [hP] at h
      have h' : e.1 = r := h
      have he : e ∈ g.P := by rw [hP]; exact List.mem_cons_self
      have hok := okE_true.1 (hv.ok (.inr he))
      refine ⟨e, l, hv, rfl, h', head_final hv hP, ?_, ?_, hok.2.1⟩
      · unfold stR; rw [if_pos hb, ← h']; exact stA_P hv he
      · rw [← h']; exact hok.1
  · omega

theorem ins_head {e : En} {l : List En} (h : AscE (e :: l)) : ins (e :: l) e.1 e.2.1 = (e.1, e.2.1, true) :: l := by
  have hr : rst (e :: l) e.1 = l := by
    unfold rst pla
    rw [List.findIdx_cons]; simp
  have hc : cnt l e.2.1 = 0 := by
    refine cnt_is (Nat.zero_le _) (fun j y hj => by omega) (fun y hy => ?_)
    have : y ∈ l := List.mem_of_getElem? hy
    exact ltS_asymm ((List.pairwise_cons.1 h).1 y this)
  unfold ins
  rw [hr, hc]; simp
/-- the first message gets its own stamp -/
theorem fi_own {g : Gp} {e : En} {l : List En} (hv : Vd g) (hP : g.P = e :: l) : fiR g e.1 e.2.1 = (fiG g e.1 e.2.1, e.1 :: msgs (tld l), true) := by
  have he : e ∈ g.P := by rw [hP]; exact List.mem_cons_self
  have hok := okE_true.1 (hv.ok (.inr he))
  have hasc := hv.ascP
  have hf : fiOk g e.1 e.2.1 = true := (fiOk_iff hv _ _).2 ⟨e, he, rfl, head_final hv hP, ltS_irr _, fun d hd hne heq => by
    rcases hd with hd | hd
    · have := (hv.lt hd he).1
      rw [heq, ltS_irr] at this; cases this
    · rw [hP] at hd hasc
      rcases List.mem_cons.1 hd with rfl | hd
      · exact hne rfl
      · have := (List.pairwise_cons.1 hasc).1 d hd
        rw [heq, ltS_irr] at this; cases this⟩
  rw [fi_of (vdB_true.2 hv) hok.1 hok.2.1 hf]
  rw [hP] at hasc ⊢
  rw [ins_head hasc]
  rfl
/-- what does not stand first delivers nothing -/
theorem fi_blocks {g g' : Gp} {m : Int} {s : St} {T : List Int} (h : fiR g m s = (g', T, true)) : ∃ e l, g.P = e :: l ∧ (m = e.1 ∨ T = []) := by
  obtain ⟨hv, hm, hs, hf, _, rfl⟩ := fi_true h
  obtain ⟨x, hx, e1, e2, hlt, hne⟩ := (fiOk_iff hv m s).1 hf
  cases hP : g.P with
  | nil => rw [hP] at hx; cases hx
  | cons e l =>
    refine ⟨e, l, rfl, ?_⟩
    by_cases hem : e.1 = m
    · exact .inl hem.symm
    · right
      have hasc := hv.ascP
      rw [hP] at hx hasc
      have hxl : x ∈ l := by
        rcases List.mem_cons.1 hx with rfl | h
        · exact absurd e1 hem
        · exact h
      have hex := (List.pairwise_cons.1 hasc).1 x hxl
      have hes : ltS e.2.1 s = true := by
        cases h1 : ltS x.2.1 s with
        | true => exact ltS_trans hex h1
        | false => rw [← ltS_tot h1 hlt]; exact hex
      have hef := head_final hv hP
      have hr : rst (e :: l) m = e :: rst l m := by
        unfold rst pla
        rw [List.findIdx_cons, show (e.1 == m) = false by simp [hem]]
        simp
      unfold ins
      rw [hr]
      have hc : cnt (e :: rst l m) s = cnt (rst l m) s + 1 := by
        unfold cnt
        rw [List.takeWhile_cons_of_pos (by exact hes)]; simp
      rw [hc, List.take_succ_cons]
      show msgs (tld (e :: _)) = []
      unfold tld
      rw [List.takeWhile_cons_of_neg (by rw [hef]; simp)]; rfl

/-- a drawn group -/
def DrG (w : World) (id ck : Int) (A1 : Option Addr) (c1 : Nat) (A2 : Option Addr) (c2 : Nat) (Pn Dn : List En) (w' : World) : Prop :=
  OwG w' w.heap.size A1 Pn.length c1 A2 Dn.length c2 Pn Dn ∧ Pn.length + Dn.length ≤ 13 ∧ Below w.heap.size w w'

def DrawGV (w : World) (e : Ending) (w' : World) : Prop :=
  ∃ (id ck : Int) (A1 : Option Addr) (c1 : Nat) (A2 : Option Addr) (c2 : Nat) (Pn Dn : List En), e = .returned (gpV id ck (.slice A1 Pn.length c1) (.slice A2 Dn.length c2)) ∧ DrG w id ck A1 c1 A2 c2 Pn Dn w'

def DrawGM (w : World) (e : Ending) (w' : World) : Prop :=
  ∃ (id ck : Int) (A1 : Option Addr) (c1 : Nat) (A2 : Option Addr) (c2 : Nat) (Pn Dn : List En) (m : Int), e = .returned (.tuple #[gpV id ck (.slice A1 Pn.length c1) (.slice A2 Dn.length c2), .int .i64 m]) ∧ DrG w id ck A1 c1 A2 c2 Pn Dn w'

def DrawGF (w : World) (e : Ending) (w' : World) : Prop :=
  ∃ (id ck : Int) (A1 : Option Addr) (c1 : Nat) (A2 : Option Addr) (c2 : Nat) (Pn Dn : List En) (m t k : Int), e = .returned (.tuple #[gpV id ck (.slice A1 Pn.length c1) (.slice A2 Dn.length c2), .int .i64 m, two t k]) ∧ DrG w id ck A1 c1 A2 c2 Pn Dn w'

set_option maxHeartbeats 2000000 in
theorem DrawGroupTrace_any {a : Option Addr} {len cap : Nat} {zs : List Int} (w : World) (h : RowIs .u8 w a len cap zs) :
    Calls Try.prog 17 #[.slice a len cap] w (DrawGV w) := by
  have h0 := hid (h.alloc (.cells #[.int .i64 0, .int .i64 0, .slice none 0 0, .slice none 0 0] 25))
  have B0 := hid (below1 w (.cells #[.int .i64 0, .int .i64 0, .slice none 0 0, .slice none 0 0] 25))
  have c0 := hid (Cs.new w 25 #[.int .i64 0, .int .i64 0, .slice none 0 0, .slice none 0 0])
  have hy0 : w.heap.size < (w.alloc (.cells #[.int .i64 0, .int .i64 0, .slice none 0 0, .slice none 0 0] 25)).heap.size := c0.out.lt
  obtain ⟨w0, hw0⟩ : ∃ W, w.alloc (.cells #[.int .i64 0, .int .i64 0, .slice none 0 0, .slice none 0 0] 25) = W := ⟨_, rfl⟩
  rw [hw0] at h0 B0 c0 hy0
  replace hw0 := hid hw0
  clear h
  go_enter Try.func17, Try.ntmps17
  go_upto_region 1 with (fail)
  rw [hw0.out]
  go_wp2_with fail
  refine (l6Open_any w0 h0.out).mono ?_
  rintro e w1 ⟨rfl, r1, hb1, hz1⟩
  have r1' := hid r1
  have c1b := hid (c0.out.step hb1)
  have B1 := hid (B0.out.trans (hb1.mono B0.out.size))
  have hz1' : w0.heap.size < w1.heap.size := by omega
  clear r1 hb1 hz1 h0 c0 B0
  go_wp2_with fail
  refine (l91Group_any _ r1'.out (by omega)).mono ?_
  rintro e w2 ⟨id, ck, A1, c1, A2, c2, Pn, Dn, rfl, ho, hl, hr, hg⟩
  have c3 := hid (grown_cs c1b.out hg (by intro e; injection e with e; omega))
  have B3 := hid (B1.out.grown hg B1.out.size (fun k e => by injection e with e; omega))
  have hk := hid ((Kp.refl (fun b => b = w.heap.size) w2).set4 (b := w.heap.size) rfl (.int .i64 id) (.int .i64 ck) (.slice A1 Pn.length c1) (.slice A2 Dn.length c2))
  have hE := hid (show DrG w id ck A1 c1 A2 c2 Pn Dn ((((w2.setCell ⟨w.heap.size, 0, none⟩ (.int .i64 id)).setCell ⟨w.heap.size, 1, none⟩ (.int .i64 ck)).setCell ⟨w.heap.size, 2, none⟩ (.slice A1 Pn.length c1)).setCell ⟨w.heap.size, 3, none⟩ (.slice A2 Dn.length c2)) from ⟨(ho.kp hk.out (fun b hb e => by omega)).more (by omega), hl, B3.out.trans (hk.out.base B3.out.size (fun i e => by omega))⟩)
  obtain ⟨x0, x1, x2, x3⟩ := c3.out.four
  obtain ⟨y0, y1, y2, y3⟩ := c3.out.free4
  have hy := hid (c3.out.set4 (.int .i64 id) (.int .i64 ck) (.slice A1 Pn.length c1) (.slice A2 Dn.length c2)).four
  clear hg hr ho hk B3 B1 c3 r1'
  go_wp2
  exact bodyPost_ret (v := gpV id ck (.slice A1 Pn.length c1) (.slice A2 Dn.length c2)) (by simp [results, Try.results17, go_sem, hy.out.1, hy.out.2.1, hy.out.2.2.1, hy.out.2.2.2]) rfl ⟨id, ck, A1, c1, A2, c2, Pn, Dn, rfl, hE.out⟩

set_option maxHeartbeats 4000000 in
theorem DrawGroupPropose_any {a : Option Addr} {len cap : Nat} {zs : List Int} (w : World) (h : RowIs .u8 w a len cap zs) :
    Calls Try.prog 6 #[.slice a len cap] w (DrawGM w) := by
  have h0 := hid (h.alloc (.cells #[.int .i64 0, .int .i64 0, .slice none 0 0, .slice none 0 0] 25))
  have B0 := hid (below1 w (.cells #[.int .i64 0, .int .i64 0, .slice none 0 0, .slice none 0 0] 25))
  have c0 := hid (Cs.new w 25 #[.int .i64 0, .int .i64 0, .slice none 0 0, .slice none 0 0])
  have hy0 : w.heap.size < (w.alloc (.cells #[.int .i64 0, .int .i64 0, .slice none 0 0, .slice none 0 0] 25)).heap.size := c0.out.lt
  obtain ⟨w0, hw0⟩ : ∃ W, w.alloc (.cells #[.int .i64 0, .int .i64 0, .slice none 0 0, .slice none 0 0] 25) = W := ⟨_, rfl⟩
  rw [hw0] at h0 B0 c0 hy0
  replace hw0 := hid hw0
  clear h
  go_enter Try.func6, Try.ntmps6
  go_upto_region 1 with (fail)
  rw [hw0.out]
  go_wp2_with fail
  refine (l6Open_any w0 h0.out).mono ?_
  rintro e w1 ⟨rfl, r1, hb1, hz1⟩
  have r1' := hid r1
  have c1b := hid (c0.out.step hb1)
  have B1 := hid (B0.out.trans (hb1.mono B0.out.size))
  have hz1' : w0.heap.size < w1.heap.size := by omega
  clear r1 hb1 hz1 h0 c0 B0
  go_wp2_with fail
  refine (l91Group_any _ r1'.out (by omega)).mono ?_
  rintro e w2 ⟨id, ck, A1, c1, A2, c2, Pn, Dn, rfl, ho, hl, hr, hg⟩
  have c3 := hid ((grown_cs c1b.out hg (by intro e; injection e with e; omega)).alloc (.cells #[.int .i64 id, .int .i64 ck, .slice A1 Pn.length c1, .slice A2 Dn.length c2] 25))
  have B3 := hid ((B1.out.grown hg B1.out.size (fun k e => by injection e with e; omega)).trans ((below1 w2 (.cells #[.int .i64 id, .int .i64 ck, .slice A1 Pn.length c1, .slice A2 Dn.length c2] 25)).mono (Nat.le_trans (Nat.le_trans (Nat.le_of_lt hy0) (Nat.le_of_lt hz1')) hg.size)))
  have ho3 := hid (ho.below (below1 w2 (.cells #[.int .i64 id, .int .i64 ck, .slice A1 Pn.length c1, .slice A2 Dn.length c2] 25)))
  have hr3 := hid (hr.allocs (.cells #[.int .i64 id, .int .i64 ck, .slice A1 Pn.length c1, .slice A2 Dn.length c2] 25))
  have d3 := hid (Cs.new w2 25 #[.int .i64 id, .int .i64 ck, .slice A1 Pn.length c1, .slice A2 Dn.length c2])
  have hz3 := hg.size
  have hy3 : w2.heap.size < (w2.alloc (.cells #[.int .i64 id, .int .i64 ck, .slice A1 Pn.length c1, .slice A2 Dn.length c2] 25)).heap.size := d3.out.lt
  have hoh := hid (show ∀ b, ((Value.slice A1 Pn.length c1).ownBlock = some b ∨ (Value.slice A2 Dn.length c2).ownBlock = some b) → w1.heap.size ≤ b from fun b h => h.elim (fun h => (ho.op.lt b h).1) (fun h => (ho.od.lt b h).1))
  replace hl := hid hl
  clear hg hr ho r1' B1 c1b
  go_upto_region 3 with (fail)
  obtain ⟨W3, hW3⟩ : ∃ W, w2.alloc (.cells #[.int .i64 id, .int .i64 ck, .slice A1 Pn.length c1, .slice A2 Dn.length c2] 25) = W := ⟨_, rfl⟩
  rw [hW3] at c3 B3 ho3 hr3 d3 hy3
  rw [hW3]
  clear hW3
  obtain ⟨x0, x1, x2, x3⟩ := d3.out.four
  have qd := And.intro x0 (And.intro x1 (And.intro x2 x3))
  have hrd := hid (show Rdr W3.drew w0.heap.size w0.heap.size (0 + 90) from hr3.out)
  have KA : Hid (∀ X, W3.grownBy X (some w0.heap.size) → Cs X w2.heap.size 25 #[.int .i64 id, .int .i64 ck, .slice A1 Pn.length c1, .slice A2 Dn.length c2] ∧ Cs X w.heap.size 25 #[.int .i64 0, .int .i64 0, .slice none 0 0, .slice none 0 0] ∧ OwG X w1.heap.size A1 Pn.length c1 A2 Dn.length c2 Pn Dn ∧ Below w.heap.size w X) := hid (fun X h => ⟨grown_cs d3.out h (by intro e; injection e with e; omega), grown_cs c3.out h (by intro e; injection e with e; omega), ho3.out.kp ((Kp.refl (fun b => b = w0.heap.size) W3).grown h (fun k e => .inr (by injection e with e; exact e.symm))) (fun b hb e => by omega), B3.out.grown h B3.out.size (fun k e => by injection e with e; omega)⟩)
  have GD := hid (show W3.grownBy W3.drew (some w0.heap.size) from grown_drewN (World.grownBy.refl _ _) 1)
  obtain ⟨-, u0, -, -⟩ := KA.out _ (World.grownBy.refl W3 _)
  obtain ⟨p0, p1, p2, p3⟩ := u0.four
  obtain ⟨f0, f1, f2, f3⟩ := u0.free4
  clear u0
  go_region_held3 (fun w' => w'.cell? ⟨w2.heap.size, 0, none⟩ = some (.int .i64 id) ∧ w'.cell? ⟨w2.heap.size, 1, none⟩ = some (.int .i64 ck) ∧ w'.cell? ⟨w2.heap.size, 2, none⟩ = some (.slice A1 Pn.length c1) ∧ w'.cell? ⟨w2.heap.size, 3, none⟩ = some (.slice A2 Dn.length c2))
    (first | with_reducible exact qd | with_reducible exact (KA.out _ GD.out).1.four | with_reducible exact qm | with_reducible exact qn | go_keep)
    (first | (go_at_call 22; (refine (l91Message_any _ hrd.out (by decide)).mono ?_); rintro e w4 ⟨m, rfl, -, q4⟩; have G4 := grown_set GD.out q4; obtain ⟨d4, c4, o4, B4⟩ := KA.out _ G4; have qm := d4.four; have qn := (d4.far (p := ⟨w.heap.size, 0, none⟩) (by simp; omega) (.int .i64 id) |>.far (p := ⟨w.heap.size, 1, none⟩) (by simp; omega) (.int .i64 ck) |>.far (p := ⟨w.heap.size, 2, none⟩) (by simp; omega) (.slice A1 Pn.length c1) |>.far (p := ⟨w.heap.size, 3, none⟩) (by simp; omega) (.slice A2 Dn.length c2)).four; have p4 := c4.four; have f4 := c4.free4; obtain ⟨p40, p41, p42, p43⟩ := p4; obtain ⟨f40, f41, f42, f43⟩ := f4; have d4 := hid d4; have c4 := hid c4; have o4 := hid o4; have B4 := hid B4; clear G4 q4))
  all_goals
    have hk := hid ((Kp.refl (fun b => b = w.heap.size) w4).set4 (b := w.heap.size) rfl (.int .i64 id) (.int .i64 ck) (.slice A1 Pn.length c1) (.slice A2 Dn.length c2))
    have hE := hid (show DrG w id ck A1 c1 A2 c2 Pn Dn ((((w4.setCell ⟨w.heap.size, 0, none⟩ (.int .i64 id)).setCell ⟨w.heap.size, 1, none⟩ (.int .i64 ck)).setCell ⟨w.heap.size, 2, none⟩ (.slice A1 Pn.length c1)).setCell ⟨w.heap.size, 3, none⟩ (.slice A2 Dn.length c2)) from ⟨(o4.out.kp hk.out (fun b hb e => by omega)).more (by omega), hl.out, B4.out.trans (hk.out.base B4.out.size (fun i e => by omega))⟩)
    have hy := hid (c4.out.set4 (.int .i64 id) (.int .i64 ck) (.slice A1 Pn.length c1) (.slice A2 Dn.length c2)).four
    clear hk o4 B4 c4 d4 qd qm qn KA GD hrd hr3 ho3 B3 c3 d3
    go_wp2
    exact bodyPost_ret (v := .tuple #[gpV id ck (.slice A1 Pn.length c1) (.slice A2 Dn.length c2), .int .i64 m]) (by simp [results, Try.results6, go_sem, hy.out.1, hy.out.2.1, hy.out.2.2.1, hy.out.2.2.2]) rfl ⟨id, ck, A1, c1, A2, c2, Pn, Dn, m, rfl, hE.out⟩

/-- a group of the call's own whose blocks lie from lo on and below hi -/
structure Lg (w : World) (lo hi : Nat) (A1 : Option Addr) (n1 c1 : Nat) (A2 : Option Addr) (n2 c2 : Nat) (P D : List En) : Prop where
  ow : OwG w lo A1 n1 c1 A2 n2 c2 P D
  hb : ∀ b, (Value.slice A1 n1 c1).ownBlock = some b ∨ (Value.slice A2 n2 c2).ownBlock = some b → b < hi
  hi : hi ≤ w.heap.size
section
variable {w w' : World} {S : Nat → Prop} {lo hi n1 c1 n2 c2 : Nat} {A1 A2 : Option Addr} {P D : List En}

theorem Lg.of (h : OwG w lo A1 n1 c1 A2 n2 c2 P D) : Lg w lo w.heap.size A1 n1 c1 A2 n2 c2 P D :=
  ⟨h, fun b hb => by rcases hb with hb | hb; exact (h.op.lt b hb).2; exact (h.od.lt b hb).2, Nat.le_refl _⟩

theorem Lg.step (h : Lg w lo hi A1 n1 c1 A2 n2 c2 P D) (hb : Below w.heap.size w w') : Lg w' lo hi A1 n1 c1 A2 n2 c2 P D := ⟨h.ow.below hb, h.hb, Nat.le_trans h.hi hb.size⟩

theorem Lg.kp (h : Lg w lo hi A1 n1 c1 A2 n2 c2 P D) (hk : Kp S w w') (hS : ∀ b, lo ≤ b → b < hi → ¬ S b) : Lg w' lo hi A1 n1 c1 A2 n2 c2 P D :=
  ⟨⟨hk.own h.ow.op (fun k hk' => hS k (h.ow.op.lt k hk').1 (h.hb k (.inl hk'))), hk.own h.ow.od (fun k hk' => hS k (h.ow.od.lt k hk').1 (h.hb k (.inr hk'))), h.ow.l1, h.ow.l2, h.ow.ne⟩, h.hb, Nat.le_trans h.hi hk.size⟩

theorem Lg.r1 (h : Lg w lo hi A1 n1 c1 A2 n2 c2 P D) : RdE w w.heap.size A1 n1 P := h.ow.op.rd h.ow.l1

theorem Lg.r2 (h : Lg w lo hi A1 n1 c1 A2 n2 c2 P D) : RdE w w.heap.size A2 n2 D := h.ow.od.rd h.ow.l2
end

theorem Lv.kp {S : Nat → Prop} {w w' : World} {lo hi : Nat} {v : Value} {zs : List Int} (h : Lv w lo hi v zs) (hk : Kp S w w') (hS : ∀ b, lo ≤ b → b < hi → ¬ S b) : Lv w' lo hi v zs :=
  ⟨⟨own_of_block h.1.1 fun g hg => hk.block g (h.1.1.lt g hg).2 (hS g (h.1.1.lt g hg).1 (h.1.2 g hg)), h.1.2⟩, Nat.le_trans h.2 hk.size⟩

theorem Kp.of_quiet {S : Nat → Prop} {w w' : World} (h : Qt w w') : Kp S w w' := Kp.of_below (h.below _)

theorem prR_lenN {g g' : Gp} {m : Int} {s : St} {b : Bool} (h : prR g m = (g', s, b)) : g'.P.length ≤ g.P.length + 1 ∧ g'.D.length ≤ g.D.length := by
  unfold prR at h
  split at h
  · unfold prA at h
    split at h
    · simp only [Prod.mk.injEq] at h
      rw [← h.1]; exact ⟨by omega, by omega⟩
    · split at h
      · simp only [Prod.mk.injEq] at h
        rw [← h.1]; exact ⟨by omega, by omega⟩
      · simp only [Prod.mk.injEq] at h
        rw [← h.1]
        exact ⟨by simp, by simp⟩
  · simp only [Prod.mk.injEq] at h
    rw [← h.1]; exact ⟨by simp [gp0], by simp [gp0]⟩

theorem fiR_lenN {g g' : Gp} {m : Int} {s : St} {T : List Int} {b : Bool} (h : fiR g m s = (g', T, b)) : g'.P.length ≤ g.P.length ∧ g'.D.length ≤ g.D.length + g.P.length ∧ T.length ≤ g.P.length := by
  unfold fiR at h
  split at h
  · unfold fiA at h
    split at h
    · rename_i hf
      simp only [Prod.mk.injEq] at h
      have h1 := h.1
      have h2 := h.2.1
      rw [← h1, ← h2]
      simp only [fiOk, Bool.and_eq_true, decide_eq_true_eq] at hf
      have h3 := (plI_ge hf.1.1.1).1
      have h4 : (ins g.P m s).length = g.P.length := ins_len rfl h3
      have h5 := congrArg List.length (tld_lft (ins g.P m s))
      rw [List.length_append] at h5
      refine ⟨?_, ?_, ?_⟩
      · show (lft (ins g.P m s)).length ≤ _; omega
      · show (g.D ++ tld (ins g.P m s)).length ≤ _; rw [List.length_append]; omega
      · rw [msgs_len]; omega
    · simp only [Prod.mk.injEq] at h
      rw [← h.1, ← h.2.1]; exact ⟨by omega, by omega, by simp⟩
  · simp only [Prod.mk.injEq] at h
    rw [← h.1, ← h.2.1]; exact ⟨by simp [gp0], by simp [gp0], by simp⟩

theorem stL_of {s t : St} (h1 : okS s = true) (h2 : okS t = true) (h3 : ltS s t = true) : stL s.1 s.2 t.1 t.2 = true := by
  have a1 : stB s.1 s.2 = true := h1
  have a2 : stB t.1 t.2 = true := h2
  have a3 : lexB s.1 s.2 t.1 t.2 = true := h3
  unfold stL; rw [a1, a2, a3]; rfl

theorem pr_ok {g g' : Gp} {m : Int} {s : St} (h : prR g m = (g', s, true)) : okS s = true :=
  (okE_true.1 ((pr_valid h).ok (.inr (pr_entry h).1))).2.1

theorem pr_lessD {g g' : Gp} {m : Int} {s : St} (h : prR g m = (g', s, true)) : ∀ e ∈ g.D, stL e.2.1.1 e.2.1.2 s.1 s.2 = true := fun e he =>
  stL_of (okE_true.1 ((pr_true h).1.ok (.inl he))).2.1 (pr_ok h) ((pr_less h).1 e he)

theorem pr_lessP {g g' : Gp} {m : Int} {s : St} (h : prR g m = (g', s, true)) (hn : stR g m = (en0, false)) : ∀ e ∈ g.P, stL e.2.1.1 e.2.1.2 s.1 s.2 = true := fun e he =>
  stL_of (okE_true.1 ((pr_true h).1.ok (.inr he))).2.1 (pr_ok h) ((pr_less h).2 hn e he)

theorem fi_commR {g a b : Gp} {m k : Int} {s t : St} {g' : Gp} {T U V : List Int} (h1 : fiR g m s = (g', T, true)) (h2 : fiR g' k t = (a, U, true)) (h3 : fiR g k t = (b, V, true)) : ∃ W, fiR b m s = (a, W, true) := by
  obtain ⟨hv, hm, hs, f1, rfl, _⟩ := fi_true h1
  obtain ⟨hv', hk, ht, f2, rfl, _⟩ := fi_true h2
  obtain ⟨_, _, _, f3, rfl, _⟩ := fi_true h3
  obtain ⟨f4, e⟩ := fi_comm hv hm hs hk ht f1 f2 f3
  obtain ⟨y, hy⟩ := (fiOk_iff hv k t).1 f3
  exact ⟨_, by rw [fi_of (vdB_true.2 (fiG_valid hv hy hk ht)) hm hs f4, e]⟩

theorem sameB_selfN (zs : List Int) : sameB zs zs = true := by simp [sameB]

theorem RowIs.len_leN {k : IntKind} {w : World} {a : Option Addr} {len cap : Nat} {zs : List Int} (h : RowIs k w a len cap zs) : len ≤ 9223372036854775807 := by
  rcases h with ⟨rfl, rfl, rfl, rfl⟩ | ⟨x, rfl, hl, hm, _⟩
  · omega
  · unfold maxLen at hm; omega

theorem RowIs.belowN {k : IntKind} {w w' : World} {a : Option Addr} {len cap : Nat} {zs : List Int} (h : RowIs k w a len cap zs) (hb : Below w.heap.size w w') : RowIs k w' a len cap zs := by
  rcases h with h | ⟨x, rfl, hl, hm, hz, hc, hw⟩
  · exact .inl h
  · exact .inr ⟨x, rfl, hl, hm, hz, fun i hi => (hb.cell (World.block_lt_of_cell? w _ (hc i hi))).trans (hc i hi), hw⟩

theorem nw_valid {id : Int} (h : grB id = true) : vdB ⟨id, 0, [], []⟩ = true := by
  rw [vdB_true]
  exact ⟨h, Int.le_refl _, by show (0 : Int) ≤ 999; decide, LsOk.nil _ _, (fun e he => by cases he), rfl⟩

theorem GroupNew_asN_spec {id z : Int} {b : Bool} (hz : (if grB id then id else 0) = z) (hb : grB id = b) (w : World) : Calls Try.prog 42 #[.int .i64 id] w fun e w' => ∃ (A1 : Option Addr) (c1 : Nat) (A2 : Option Addr) (c2 : Nat), e = .returned (.tuple #[gpV z 0 (.slice A1 0 c1) (.slice A2 0 c2), .bool b]) ∧ OwG w' w.heap.size A1 0 c1 A2 0 c2 [] [] ∧ Below w.heap.size w w' := by
  subst hz; subst hb; exact GroupNew_spec id w


/-- the draw of a final stamp, under way: the results' boxes, the drawn group's box, the reader -/
structure Dr (w X : World) (g b6 n : Nat) (id ck : Int) (A1 : Option Addr) (c1 : Nat) (A2 : Option Addr) (c2 : Nat) (Pn Dn : List En) : Prop where
  r2 : Cs X w.heap.size 25 #[.int .i64 0, .int .i64 0, .slice none 0 0, .slice none 0 0]
  r4 : Cs X (w.heap.size + 1) 29 #[.int .i64 0, .int .i64 0]
  c6 : Cs X b6 25 #[.int .i64 id, .int .i64 ck, .slice A1 Pn.length c1, .slice A2 Dn.length c2]
  ow : OwG X (g + 1) A1 Pn.length c1 A2 Dn.length c2 Pn Dn
  bl : Below w.heap.size w X
  rd : Rdr X g g n
  hg : g = w.heap.size + 1 + 1
  h6 : g < b6
  own : ∀ b, ((Value.slice A1 Pn.length c1).ownBlock = some b ∨ (Value.slice A2 Dn.length c2).ownBlock = some b) → b < b6
section
variable {w X Y : World} {g b6 n n' : Nat} {id ck : Int} {A1 : Option Addr} {c1 : Nat} {A2 : Option Addr} {c2 : Nat} {Pn Dn : List En}

theorem Dr.grow (h : Dr w X g b6 n id ck A1 c1 A2 c2 Pn Dn) (hg : X.grownBy Y (some g)) (hr : Rdr Y g g n') : Dr w Y g b6 n' id ck A1 c1 A2 c2 Pn Dn := by
  have h1 := h.hg
  have h2 := h.h6
  have h3 := h.bl.size
  exact ⟨grown_cs h.r2 hg (by intro e; injection e with e; omega), grown_cs h.r4 hg (by intro e; injection e with e; omega), grown_cs h.c6 hg (by intro e; injection e with e; omega), h.ow.kp ((Kp.refl (fun b => b = g) X).grown hg (fun k e => .inr (by injection e with e; exact e.symm))) (fun b hb e => by omega), h.bl.grown hg h3 (fun k e => by injection e with e; omega), hr, h1, h2, h.own⟩

theorem Dr.below (h : Dr w X g b6 n id ck A1 c1 A2 c2 Pn Dn) (hb : Below X.heap.size X Y) : Dr w Y g b6 n id ck A1 c1 A2 c2 Pn Dn :=
  ⟨h.r2.step hb, h.r4.step hb, h.c6.step hb, h.ow.below hb, h.bl.trans (hb.mono h.bl.size), h.rd.below hb h.rd.lt, h.hg, h.h6, h.own⟩

theorem Dr.set8 (h : Dr w X g b6 n id ck A1 c1 A2 c2 Pn Dn) {b8 : Nat} (h8 : b6 < b8) (u0 u1 : Value) : Dr w ((X.setCell ⟨b8, 0, none⟩ u0).setCell ⟨b8, 1, none⟩ u1) g b6 n id ck A1 c1 A2 c2 Pn Dn := by
  have h1 := h.hg
  have h2 := h.h6
  have hk := (Kp.refl (fun b => b = b8) X).set2 (b := b8) rfl u0 u1
  exact ⟨h.r2.kp hk (by omega), h.r4.kp hk (by omega), h.c6.kp hk (by omega), ⟨hk.own h.ow.op (fun b hb e => by have := h.own b (.inl hb); omega), hk.own h.ow.od (fun b hb e => by have := h.own b (.inr hb); omega), rfl, rfl, h.ow.ne⟩, h.bl.trans (hk.base h.bl.size (fun i e => by omega)), (h.rd.far (p := ⟨b8, 0, none⟩) (by show g < b8; omega) _).far (p := ⟨b8, 1, none⟩) (by show g < b8; omega) _, h1, h2, h.own⟩

theorem dr_set9 (h : Dr w X g b6 n id ck A1 c1 A2 c2 Pn Dn) {b8 : Nat} (h8 : b6 < b8) (u0 u1 u2 u3 : Value) : Dr w ((((X.setCell ⟨b8, 0, none⟩ u0).setCell ⟨b8, 1, none⟩ u1).setCell ⟨b8, 2, none⟩ u2).setCell ⟨b8, 3, none⟩ u3) g b6 n id ck A1 c1 A2 c2 Pn Dn := by
  have h1 := h.hg
  have h2 := h.h6
  have hk := (Kp.refl (fun b => b = b8) X).set4 (b := b8) rfl u0 u1 u2 u3
  exact ⟨h.r2.kp hk (by omega), h.r4.kp hk (by omega), h.c6.kp hk (by omega), ⟨hk.own h.ow.op (fun b hb e => by have := h.own b (.inl hb); omega), hk.own h.ow.od (fun b hb e => by have := h.own b (.inr hb); omega), rfl, rfl, h.ow.ne⟩, h.bl.trans (hk.base h.bl.size (fun i e => by omega)), (((h.rd.far (p := ⟨b8, 0, none⟩) (by show g < b8; omega) _).far (p := ⟨b8, 1, none⟩) (by show g < b8; omega) _).far (p := ⟨b8, 2, none⟩) (by show g < b8; omega) _).far (p := ⟨b8, 3, none⟩) (by show g < b8; omega) _, h1, h2, h.own⟩

theorem Dr.fin (h : Dr w X g b6 n id ck A1 c1 A2 c2 Pn Dn) (t k : Int) : OwG ((((((X.setCell ⟨w.heap.size, 0, none⟩ (.int .i64 id)).setCell ⟨w.heap.size, 1, none⟩ (.int .i64 ck)).setCell ⟨w.heap.size, 2, none⟩ (.slice A1 Pn.length c1)).setCell ⟨w.heap.size, 3, none⟩ (.slice A2 Dn.length c2)).setCell ⟨w.heap.size + 1, 0, none⟩ (.int .i64 t)).setCell ⟨w.heap.size + 1, 1, none⟩ (.int .i64 k)) w.heap.size A1 Pn.length c1 A2 Dn.length c2 Pn Dn ∧ Below w.heap.size w ((((((X.setCell ⟨w.heap.size, 0, none⟩ (.int .i64 id)).setCell ⟨w.heap.size, 1, none⟩ (.int .i64 ck)).setCell ⟨w.heap.size, 2, none⟩ (.slice A1 Pn.length c1)).setCell ⟨w.heap.size, 3, none⟩ (.slice A2 Dn.length c2)).setCell ⟨w.heap.size + 1, 0, none⟩ (.int .i64 t)).setCell ⟨w.heap.size + 1, 1, none⟩ (.int .i64 k)) ∧ Cs ((((((X.setCell ⟨w.heap.size, 0, none⟩ (.int .i64 id)).setCell ⟨w.heap.size, 1, none⟩ (.int .i64 ck)).setCell ⟨w.heap.size, 2, none⟩ (.slice A1 Pn.length c1)).setCell ⟨w.heap.size, 3, none⟩ (.slice A2 Dn.length c2)).setCell ⟨w.heap.size + 1, 0, none⟩ (.int .i64 t)).setCell ⟨w.heap.size + 1, 1, none⟩ (.int .i64 k)) w.heap.size 25 #[.int .i64 id, .int .i64 ck, .slice A1 Pn.length c1, .slice A2 Dn.length c2] ∧ Cs ((((((X.setCell ⟨w.heap.size, 0, none⟩ (.int .i64 id)).setCell ⟨w.heap.size, 1, none⟩ (.int .i64 ck)).setCell ⟨w.heap.size, 2, none⟩ (.slice A1 Pn.length c1)).setCell ⟨w.heap.size, 3, none⟩ (.slice A2 Dn.length c2)).setCell ⟨w.heap.size + 1, 0, none⟩ (.int .i64 t)).setCell ⟨w.heap.size + 1, 1, none⟩ (.int .i64 k)) (w.heap.size + 1) 29 #[.int .i64 t, .int .i64 k] := by
  have h1 := h.hg
  have hk := (((Kp.refl (fun b => b = w.heap.size ∨ b = w.heap.size + 1) X).set4 (b := w.heap.size) (.inl rfl) (.int .i64 id) (.int .i64 ck) (.slice A1 Pn.length c1) (.slice A2 Dn.length c2))).set2 (b := w.heap.size + 1) (.inr rfl) (.int .i64 t) (.int .i64 k)
  refine ⟨(h.ow.kp hk (fun b hb e => by omega)).more (by omega), h.bl.trans (hk.base h.bl.size (fun i e => by omega)), ?_, ?_⟩
  · exact ((h.r2.set4 (.int .i64 id) (.int .i64 ck) (.slice A1 Pn.length c1) (.slice A2 Dn.length c2)).far (by simp) _).far (by simp) _
  · exact ((((((h.r4.far (by simp) _).far (by simp) _).far (by simp) _).far (by simp) _).set 0 (.int .i64 t)).set 1 (.int .i64 k))
end

set_option maxRecDepth 100000 in
set_option maxHeartbeats 16000000 in
theorem DrawGroupFinal_any {a : Option Addr} {len cap : Nat} {zs : List Int} (w : World) (h : RowIs .u8 w a len cap zs) :
    Calls Try.prog 12 #[.slice a len cap] w (DrawGF w) := by
  have h0 := hid ((h.alloc (.cells #[.int .i64 0, .int .i64 0, .slice none 0 0, .slice none 0 0] 25)).alloc (.cells #[.int .i64 0, .int .i64 0] 29))
  have B0 := hid (below2 w (.cells #[.int .i64 0, .int .i64 0, .slice none 0 0, .slice none 0 0] 25) (.cells #[.int .i64 0, .int .i64 0] 29))
  have c0 := hid ((Cs.new w 25 #[.int .i64 0, .int .i64 0, .slice none 0 0, .slice none 0 0]).alloc (.cells #[.int .i64 0, .int .i64 0] 29))
  have s0 := hid (Cs.new' (w.alloc (.cells #[.int .i64 0, .int .i64 0, .slice none 0 0, .slice none 0 0] 25)) 29 #[.int .i64 0, .int .i64 0] (b := w.heap.size + 1) (by simp))
  have hy0 : ((w.alloc (.cells #[.int .i64 0, .int .i64 0, .slice none 0 0, .slice none 0 0] 25)).alloc (.cells #[.int .i64 0, .int .i64 0] 29)).heap.size = w.heap.size + 1 + 1 := by simp
  obtain ⟨w0, hw0⟩ : ∃ W, (w.alloc (.cells #[.int .i64 0, .int .i64 0, .slice none 0 0, .slice none 0 0] 25)).alloc (.cells #[.int .i64 0, .int .i64 0] 29) = W := ⟨_, rfl⟩
  rw [hw0] at h0 B0 c0 s0 hy0
  replace hw0 := hid hw0
  replace hy0 := hid hy0
  clear h
  go_enter Try.func12, Try.ntmps12
  go_upto_region 1 with (fail)
  rw [hw0.out]
  go_wp2_with fail
  refine (l6Open_any w0 h0.out).mono ?_
  rintro e w1 ⟨rfl, r1, hb1, hz1⟩
  have r1' := hid r1
  have c1b := hid (c0.out.step hb1)
  have s1 := hid (s0.out.step hb1)
  have B1 := hid (B0.out.trans (hb1.mono B0.out.size))
  have hz1' : w0.heap.size < w1.heap.size := by omega
  clear r1 hb1 hz1 h0 c0 s0 B0
  obtain ⟨g, hgg⟩ : ∃ g, w0.heap.size = g := ⟨_, rfl⟩
  rw [hgg] at r1' hz1' hy0 ⊢
  replace hgg := hid hgg
  go_wp2_with fail
  refine (l91Group_any _ r1'.out (by omega)).mono ?_
  rintro e w2 ⟨id, ck, A1, c1, A2, c2, Pn, Dn, rfl, ho, hl, hr, hg⟩
  have hD : Hid (Dr w (w2.alloc (.cells #[.int .i64 id, .int .i64 ck, .slice A1 Pn.length c1, .slice A2 Dn.length c2] 25)) g w2.heap.size (0 + 90) id ck A1 c1 A2 c2 Pn Dn) := hid (by
    have hs := hg.size
    have hy := hy0.out
    have hb := below1 w2 (.cells #[.int .i64 id, .int .i64 ck, .slice A1 Pn.length c1, .slice A2 Dn.length c2] 25)
    have hs1 := B1.out.size
    exact ⟨(grown_cs c1b.out hg (by intro e; injection e with e; omega)).step hb, (grown_cs s1.out hg (by intro e; injection e with e; omega)).step hb, Cs.new w2 _ _, (ho.below hb).more (by omega), (B1.out.grown hg B1.out.size (fun k e => by injection e with e; omega)).trans (hb.mono (by omega)), hr.below hb hr.lt, hy, by omega, fun b h => h.elim (fun h => (ho.op.lt b h).2) (fun h => (ho.od.lt b h).2)⟩)
  replace hl := hid hl
  clear hg hr ho r1' B1 c1b s1
  go_upto_region 3 with (fail)
  obtain ⟨b6, hb6⟩ : ∃ b, w2.heap.size = b := ⟨_, rfl⟩
  obtain ⟨W3, hW3⟩ : ∃ W, w2.alloc (.cells #[.int .i64 id, .int .i64 ck, .slice A1 Pn.length c1, .slice A2 Dn.length c2] 25) = W := ⟨_, rfl⟩
  rw [hW3] at hD
  rw [hb6] at hD
  rw [hW3, hb6]
  clear hW3
  go_wp2_with fail
  refine (l91Message_any _ hD.out.rd (by decide)).mono ?_
  rintro e w4 ⟨m, rfl, r4, q4⟩
  have hD4 := hid (hD.out.grow q4 r4)
  clear hD r4 q4
  go_wp2_with fail
  refine (l91Stamp_any _ hD4.out.rd (by decide)).mono ?_
  rintro e w5 ⟨t, k, rfl, r5, q5⟩
  have hD5 := hid ((hD4.out.grow q5 r5).below (below1 w5 (.cells #[.int .i64 t, .int .i64 k] 29)))
  have hS5 := hid (Cs.new w5 29 #[.int .i64 t, .int .i64 k])
  have h68 : b6 < w5.heap.size := (hD4.out.grow q5 r5).c6.lt
  have hl58 : w5.heap.size < (w5.alloc (.cells #[.int .i64 t, .int .i64 k] 29)).heap.size := hS5.out.lt
  clear hD4 r5 q5
  go_upto_region 5 with (fail)
  obtain ⟨b8, hb8⟩ : ∃ b, w5.heap.size = b := ⟨_, rfl⟩
  obtain ⟨W5, hW5⟩ : ∃ W, w5.alloc (.cells #[.int .i64 t, .int .i64 k] 29) = W := ⟨_, rfl⟩
  rw [hW5] at hD5 hS5 hl58
  rw [hb8] at hS5 h68 hl58
  rw [hW5, hb8]
  clear hW5
  obtain ⟨x0, x1, x2, x3⟩ := hD5.out.c6.four
  rcases Nat.eq_zero_or_pos Pn.length with hn0 | hn0
  · rw [hn0] at x2
    have hn0' := hid hn0
    clear hn0
    obtain ⟨n0, hn00⟩ : ∃ n0, Pn.length = n0 := ⟨_, rfl⟩
    go_upto_region 11 with (fail)
    clear x0 x1 x2 x3 hn00
    have hbz : b6 ≠ w.heap.size ∧ b6 ≠ w.heap.size + 1 ∧ b8 ≠ w.heap.size ∧ b8 ≠ w.heap.size + 1 := by have := hD5.out.hg; have := hD5.out.h6; omega
    have KF : Hid (∀ Y, Kp (fun b => b = w.heap.size ∨ b = w.heap.size + 1) W5 Y → (Y.cell? ⟨b6, 0, none⟩ = some (.int .i64 id) ∧ Y.cell? ⟨b6, 1, none⟩ = some (.int .i64 ck) ∧ Y.cell? ⟨b6, 2, none⟩ = some (.slice A1 Pn.length c1) ∧ Y.cell? ⟨b6, 3, none⟩ = some (.slice A2 Dn.length c2)) ∧ Y.cell? ⟨b8, 0, none⟩ = some (.int .i64 t) ∧ Y.cell? ⟨b8, 1, none⟩ = some (.int .i64 k)) := hid (fun Y h => ⟨(hD5.out.c6.kp h (by omega)).four, (hS5.out.kp h (by omega)).two.1, (hS5.out.kp h (by omega)).two.2.1⟩)
    have K0 := hid (Kp.refl (fun b => b = w.heap.size ∨ b = w.heap.size + 1) W5)
    have Q4 := hid (KF.out _ (K0.out.set4 (b := w.heap.size) (.inl rfl) (.int .i64 id) (.int .i64 ck) (.slice A1 Pn.length c1) (.slice A2 Dn.length c2)).drew)
    have Q42 := hid (KF.out _ ((K0.out.set4 (b := w.heap.size) (.inl rfl) (.int .i64 id) (.int .i64 ck) (.slice A1 Pn.length c1) (.slice A2 Dn.length c2)).set2 (b := w.heap.size + 1) (.inr rfl) (.int .i64 t) (.int .i64 k)).drew)
    have Q2 := hid (KF.out _ (K0.out.set2 (b := w.heap.size + 1) (.inr rfl) (.int .i64 t) (.int .i64 k)).drew)
    have Q24 := hid (KF.out _ ((K0.out.set2 (b := w.heap.size + 1) (.inr rfl) (.int .i64 t) (.int .i64 k)).set4 (b := w.heap.size) (.inl rfl) (.int .i64 id) (.int .i64 ck) (.slice A1 Pn.length c1) (.slice A2 Dn.length c2)).drew)
    obtain ⟨r0, r1, r2, r3⟩ := hD5.out.r2.four
    obtain ⟨f0, f1, f2, f3⟩ := hD5.out.r2.free4
    obtain ⟨s0, s1, s2, s3⟩ := hD5.out.r4.two
    have hfin := hid (hD5.out.fin t k)
    have h4 := hid hfin.out.2.2.1.drew.four
    have h2 := hid hfin.out.2.2.2.drew.two
    have qx := hid (KF.out _ K0.out.drew)
    go_region_held3 (fun w' => (w'.cell? ⟨b6, 0, none⟩ = some (.int .i64 id) ∧ w'.cell? ⟨b6, 1, none⟩ = some (.int .i64 ck) ∧ w'.cell? ⟨b6, 2, none⟩ = some (.slice A1 Pn.length c1) ∧ w'.cell? ⟨b6, 3, none⟩ = some (.slice A2 Dn.length c2)) ∧ w'.cell? ⟨b8, 0, none⟩ = some (.int .i64 t) ∧ w'.cell? ⟨b8, 1, none⟩ = some (.int .i64 k))
      (first | with_reducible exact qx.out | with_reducible exact Q4.out | with_reducible exact Q42.out | with_reducible exact Q2.out | with_reducible exact Q24.out)
      (fail)
    all_goals
      go_wp2
      exact bodyPost_ret (v := .tuple #[gpV id ck (.slice A1 Pn.length c1) (.slice A2 Dn.length c2), .int .i64 m, two t k]) (by simp [results, Try.results12, go_sem, h4.out.1, h4.out.2.1, h4.out.2.2.1, h4.out.2.2.2, h2.out.1, h2.out.2.1]) rfl ⟨id, ck, _, c1, A2, c2, Pn, Dn, m, t, k, rfl, hfin.out.1.drew, hl.out, hfin.out.2.1.drew⟩
  · have hni : (0 : Int) < (Pn.length : Int) := by omega
    go_wp2_with fail
    refine (pick_any 5 _ hD5.out.rd (by decide) (by decide) (by decide)).mono ?_
    rintro e w6 ⟨y6, rfl, hy6, hz6, r6, q6, -⟩
    have hD6 := hid (hD5.out.grow q6 r6)
    have hgb8 : g < b8 := by have := hD5.out.h6; omega
    have hS6 := hid (grown_cs hS5.out q6 (by intro e; injection e with e; omega))
    clear x0 x1 x2 x3 r6 q6 hD5 hS5
    by_cases hy : y6 = 0
    · have hyd : decide ((0 : Int) < y6) = false := decide_eq_false (by omega)
      subst hy
      go_upto_region 11 with (fail)
      have hbz : b6 ≠ w.heap.size ∧ b6 ≠ w.heap.size + 1 ∧ b8 ≠ w.heap.size ∧ b8 ≠ w.heap.size + 1 := by have := hD6.out.hg; have := hD6.out.h6; omega
      have KF : Hid (∀ Y, Kp (fun b => b = w.heap.size ∨ b = w.heap.size + 1) w6 Y → (Y.cell? ⟨b6, 0, none⟩ = some (.int .i64 id) ∧ Y.cell? ⟨b6, 1, none⟩ = some (.int .i64 ck) ∧ Y.cell? ⟨b6, 2, none⟩ = some (.slice A1 Pn.length c1) ∧ Y.cell? ⟨b6, 3, none⟩ = some (.slice A2 Dn.length c2)) ∧ Y.cell? ⟨b8, 0, none⟩ = some (.int .i64 t) ∧ Y.cell? ⟨b8, 1, none⟩ = some (.int .i64 k)) := hid (fun Y h => ⟨(hD6.out.c6.kp h (by omega)).four, (hS6.out.kp h (by omega)).two.1, (hS6.out.kp h (by omega)).two.2.1⟩)
      have K0 := hid (Kp.refl (fun b => b = w.heap.size ∨ b = w.heap.size + 1) w6)
      have Q4 := hid (KF.out _ (K0.out.set4 (b := w.heap.size) (.inl rfl) (.int .i64 id) (.int .i64 ck) (.slice A1 Pn.length c1) (.slice A2 Dn.length c2)).drew)
      have Q42 := hid (KF.out _ ((K0.out.set4 (b := w.heap.size) (.inl rfl) (.int .i64 id) (.int .i64 ck) (.slice A1 Pn.length c1) (.slice A2 Dn.length c2)).set2 (b := w.heap.size + 1) (.inr rfl) (.int .i64 t) (.int .i64 k)).drew)
      have Q2 := hid (KF.out _ (K0.out.set2 (b := w.heap.size + 1) (.inr rfl) (.int .i64 t) (.int .i64 k)).drew)
      have Q24 := hid (KF.out _ ((K0.out.set2 (b := w.heap.size + 1) (.inr rfl) (.int .i64 t) (.int .i64 k)).set4 (b := w.heap.size) (.inl rfl) (.int .i64 id) (.int .i64 ck) (.slice A1 Pn.length c1) (.slice A2 Dn.length c2)).drew)
      obtain ⟨r0, r1, r2, r3⟩ := hD6.out.r2.four
      obtain ⟨f0, f1, f2, f3⟩ := hD6.out.r2.free4
      obtain ⟨s0, s1, s2, s3⟩ := hD6.out.r4.two
      have hfin := hid (hD6.out.fin t k)
      have h4 := hid hfin.out.2.2.1.drew.four
      have h2 := hid hfin.out.2.2.2.drew.two
      have qx := hid (KF.out _ K0.out.drew)
      go_region_held3 (fun w' => (w'.cell? ⟨b6, 0, none⟩ = some (.int .i64 id) ∧ w'.cell? ⟨b6, 1, none⟩ = some (.int .i64 ck) ∧ w'.cell? ⟨b6, 2, none⟩ = some (.slice A1 Pn.length c1) ∧ w'.cell? ⟨b6, 3, none⟩ = some (.slice A2 Dn.length c2)) ∧ w'.cell? ⟨b8, 0, none⟩ = some (.int .i64 t) ∧ w'.cell? ⟨b8, 1, none⟩ = some (.int .i64 k))
        (first | with_reducible exact qx.out | with_reducible exact Q4.out | with_reducible exact Q42.out | with_reducible exact Q2.out | with_reducible exact Q24.out)
        (fail)
      all_goals
        go_wp2
        exact bodyPost_ret (v := .tuple #[gpV id ck (.slice A1 Pn.length c1) (.slice A2 Dn.length c2), .int .i64 m, two t k]) (by simp [results, Try.results12, go_sem, h4.out.1, h4.out.2.1, h4.out.2.2.1, h4.out.2.2.2, h2.out.1, h2.out.2.1]) rfl ⟨id, ck, _, c1, A2, c2, Pn, Dn, m, t, k, rfl, hfin.out.1.drew, hl.out, hfin.out.2.1.drew⟩
    · have hyd : (0 : Int) < y6 := by omega
      obtain ⟨pb, rfl, hpl, hpb, -⟩ := hD6.out.ow.op.block_ hn0
      go_upto_region 6 with (fail)
      go_cut [9] (fun v wx => ∃ (b9 : Nat) (m' t' k' : Int) (f' : Bool) (n9 : Nat), v = .pointer (some ⟨b9, 0, none⟩) ∧ b9 ≠ b8 ∧ n9 ≤ 200 ∧ Hid (Dr w wx g b6 n9 id ck (some ⟨pb, 0, none⟩) c1 A2 c2 Pn Dn) ∧ Hid (Cs wx b8 29 #[.int .i64 t, .int .i64 k]) ∧ g < b9 ∧ Hid (Cs wx b9 34 #[.int .i64 m', .int .i64 t', .int .i64 k', .bool f']))
      case first =>
        have qa := hD6.out.c6.four.2.2.1
        have KA : Hid (∀ X n', w6.grownBy X (some g) → Rdr X g g n' → Dr w X g b6 n' id ck (some ⟨pb, 0, none⟩) c1 A2 c2 Pn Dn ∧ Cs X b8 29 #[.int .i64 t, .int .i64 k]) := hid (fun X n' h r => ⟨hD6.out.grow h r, grown_cs hS6.out h (by intro e; injection e with e; omega)⟩)
        have GD := hid (show w6.grownBy w6.drew (some g) from grown_drewN (World.grownBy.refl _ _) 1)
        have rD := hid (show Rdr w6.drew g g (0 + 90 + 2 + 4 + 1) from hD6.out.rd)
        have GY := hid (show w6.grownBy (w6.alloc (.cells #[.int .i64 0, .int .i64 0, .int .i64 0, .bool false] 34)).drew (some g) from grown_drewN (World.grownBy_alloc w6 (.cells #[.int .i64 0, .int .i64 0, .int .i64 0, .bool false] 34) (some g)) 1)
        have rZ := hid (show Rdr (w6.alloc (.cells #[.int .i64 0, .int .i64 0, .int .i64 0, .bool false] 34)).drew g g (0 + 90 + 2 + 4 + 1) from hD6.out.rd.allocs (.cells #[.int .i64 0, .int .i64 0, .int .i64 0, .bool false] 34))
        have CZ := hid (show Cs (w6.alloc (.cells #[.int .i64 0, .int .i64 0, .int .i64 0, .bool false] 34)).drew w6.heap.size 34 #[.int .i64 0, .int .i64 0, .int .i64 0, .bool false] from Cs.new w6 _ _)
        have hl6 : b8 < w6.heap.size := hS6.out.lt
        have hg6 := hid (show (some g : Option Nat) ≠ some w6.heap.size from fun e => by injection e with e; have := hD6.out.rd.lt; omega)
        have hg6' : g < w6.heap.size := hD6.out.rd.lt
        have hln := hid (show (1 : Int) ≤ (Pn.length : Int) ∧ (Pn.length : Int) ≤ 1000000 by have := hl.out; omega)
        have qaD : w6.drew.cell? ⟨b6, 2, none⟩ = some (.slice (some ⟨pb, 0, none⟩) Pn.length c1) := qa
        have qaZ : (w6.alloc (.cells #[.int .i64 0, .int .i64 0, .int .i64 0, .bool false] 34)).cell? ⟨b6, 2, none⟩ = some (.slice (some ⟨pb, 0, none⟩) Pn.length c1) := (KA.out _ _ GY.out rZ.out).1.c6.four.2.2.1
        have qaY : (w6.alloc (.cells #[.int .i64 0, .int .i64 0, .int .i64 0, .bool false] 34)).drew.cell? ⟨b6, 2, none⟩ = some (.slice (some ⟨pb, 0, none⟩) Pn.length c1) := qaZ
        go_region_with (first
            | (go_at_call 33; (with_reducible refine (pick_any (Pn.length : Int) _ rZ.out (by decide) hln.out.1 hln.out.2).mono ?_); rintro e X1 ⟨y1, rfl, hy1, hyl1, r1, q1, -⟩; have G1 := hid (grown_set GY.out q1); have z1 := hid (grown_cs CZ.out q1 hg6.out); have r1 := hid r1; clear q1; obtain ⟨j, rfl⟩ := Int.eq_ofNat_of_zero_le hy1; have hj : j < Pn.length := (by omega); obtain ⟨dD, dS⟩ := KA.out _ _ G1.out r1.out; have ge := enc_get Pn j _ (get_atE hj); have ho5 := dD.ow.op; have hel : j * 4 + 3 < (enc Pn).length := (by rw [enc_len]; omega); obtain ⟨xm, xt, xk, xf, hxe⟩ : ∃ m t q f, atE Pn j = (m, (t, q), f) := ⟨_, _, _, _, rfl⟩; rw [hxe] at ge; have c0 : X1.cell? ⟨pb, j * 4, none⟩ = some (.int .i64 xm) := (ho5.cellAt _ (by omega)).trans ge.1; have c1' : X1.cell? ⟨pb, j * 4 + 1, none⟩ = some (.int .i64 xt) := (ho5.cellAt _ (by omega)).trans ge.2.1; have c2' : X1.cell? ⟨pb, j * 4 + 2, none⟩ = some (.int .i64 xk) := (ho5.cellAt _ (by omega)).trans ge.2.2.1; have c3 : X1.cell? ⟨pb, j * 4 + 3, none⟩ = some (.bool xf) := (ho5.cellAt _ (by omega)).trans ge.2.2.2; have hpX : pb < X1.heap.size := (ho5.lt pb rfl).2; have c0a := (World.cell?_alloc_lt X1 (.cells #[.int .i64 0, .int .i64 0, .int .i64 0, .bool false] 34) ⟨pb, j * 4, none⟩ hpX).trans c0; have c1a := (World.cell?_alloc_lt X1 (.cells #[.int .i64 0, .int .i64 0, .int .i64 0, .bool false] 34) ⟨pb, j * 4 + 1, none⟩ hpX).trans c1'; have c2a := (World.cell?_alloc_lt X1 (.cells #[.int .i64 0, .int .i64 0, .int .i64 0, .bool false] 34) ⟨pb, j * 4 + 2, none⟩ hpX).trans c2'; have c3a := (World.cell?_alloc_lt X1 (.cells #[.int .i64 0, .int .i64 0, .int .i64 0, .bool false] 34) ⟨pb, j * 4 + 3, none⟩ hpX).trans c3; have hb69 : b6 < w6.heap.size := (by have := hl6; omega); clear ge hel hxe ho5; have qb := dD.c6.four.2.2.1; have qbZ := (World.cell?_alloc_lt X1 (.cells #[.int .i64 0, .int .i64 0, .int .i64 0, .bool false] 34) ⟨b6, 2, none⟩ (show b6 < X1.heap.size from dD.c6.lt)).trans qb; have dD := hid dD; have dS := hid dS; obtain ⟨zc0, zc1, zc2, zc3⟩ := z1.out.four; obtain ⟨zf0, zf1, zf2, zf3⟩ := z1.out.free4; have qz2 := ((((dD.out.c6.far (p := ⟨w6.heap.size, 0, none⟩) (by simp; omega) (.int .i64 xm)).far (p := ⟨w6.heap.size, 1, none⟩) (by simp; omega) (.int .i64 xt)).far (p := ⟨w6.heap.size, 2, none⟩) (by simp; omega) (.int .i64 xk)).far (p := ⟨w6.heap.size, 3, none⟩) (by simp; omega) (.bool xf)).four.2.2.1)
            | (go_at_call 33; (with_reducible refine (pick_any (Pn.length : Int) _ rD.out (by decide) hln.out.1 hln.out.2).mono ?_); rintro e X1 ⟨y1, rfl, hy1, hyl1, r1, q1, -⟩; have G1 := hid (grown_set GD.out q1); have r1 := hid r1; clear q1; obtain ⟨j, rfl⟩ := Int.eq_ofNat_of_zero_le hy1; have hj : j < Pn.length := (by omega); obtain ⟨dD, dS⟩ := KA.out _ _ G1.out r1.out; have ge := enc_get Pn j _ (get_atE hj); have ho5 := dD.ow.op; have hel : j * 4 + 3 < (enc Pn).length := (by rw [enc_len]; omega); obtain ⟨xm, xt, xk, xf, hxe⟩ : ∃ m t q f, atE Pn j = (m, (t, q), f) := ⟨_, _, _, _, rfl⟩; rw [hxe] at ge; have c0 : X1.cell? ⟨pb, j * 4, none⟩ = some (.int .i64 xm) := (ho5.cellAt _ (by omega)).trans ge.1; have c1' : X1.cell? ⟨pb, j * 4 + 1, none⟩ = some (.int .i64 xt) := (ho5.cellAt _ (by omega)).trans ge.2.1; have c2' : X1.cell? ⟨pb, j * 4 + 2, none⟩ = some (.int .i64 xk) := (ho5.cellAt _ (by omega)).trans ge.2.2.1; have c3 : X1.cell? ⟨pb, j * 4 + 3, none⟩ = some (.bool xf) := (ho5.cellAt _ (by omega)).trans ge.2.2.2; have hpX : pb < X1.heap.size := (ho5.lt pb rfl).2; have c0a := (World.cell?_alloc_lt X1 (.cells #[.int .i64 0, .int .i64 0, .int .i64 0, .bool false] 34) ⟨pb, j * 4, none⟩ hpX).trans c0; have c1a := (World.cell?_alloc_lt X1 (.cells #[.int .i64 0, .int .i64 0, .int .i64 0, .bool false] 34) ⟨pb, j * 4 + 1, none⟩ hpX).trans c1'; have c2a := (World.cell?_alloc_lt X1 (.cells #[.int .i64 0, .int .i64 0, .int .i64 0, .bool false] 34) ⟨pb, j * 4 + 2, none⟩ hpX).trans c2'; have c3a := (World.cell?_alloc_lt X1 (.cells #[.int .i64 0, .int .i64 0, .int .i64 0, .bool false] 34) ⟨pb, j * 4 + 3, none⟩ hpX).trans c3; have hb69 : b6 < w6.heap.size := (by have := hl6; omega); clear ge hel hxe ho5; have qb := dD.c6.four.2.2.1; have qbZ := (World.cell?_alloc_lt X1 (.cells #[.int .i64 0, .int .i64 0, .int .i64 0, .bool false] 34) ⟨b6, 2, none⟩ (show b6 < X1.heap.size from dD.c6.lt)).trans qb; have dD := hid dD; have dS := hid dS))
        all_goals
          go_wp2
          go_meet
          first
            | exact ⟨_, _, _, _, _, _, rfl, by omega, by decide, hid (dr_set9 dD.out hb69 _ _ _ _), hid ((((dS.out.far (by simp; omega) _).far (by simp; omega) _).far (by simp; omega) _).far (by simp; omega) _), hg6', hid (z1.out.set4 _ _ _ _)⟩
            | exact ⟨_, _, _, _, _, _, rfl, by have := G1.out.size; omega, by decide, hid (dD.out.below (below1 X1 _)), hid (dS.out.alloc _), by have := G1.out.size; omega, hid (Cs.new X1 _ _)⟩
      case rest =>
        obtain ⟨b9, m', t', k', f', n9, rfl, h98, hn9, hD9, hS9, hg9, hE9⟩ := hcut
        obtain ⟨W9, rfl⟩ : ∃ W, W = wc := ⟨_, rfl⟩
        clear hD6 hS6
        obtain ⟨e0, e1, e2, e3⟩ := hE9.out.four
        go_wp2_with fail
        refine (pick_any 3 _ hD9.out.rd (by omega) (by decide) (by decide)).mono ?_
        rintro e wA ⟨yA, rfl, hyA, hzA, rA, qA, -⟩
        have hDA := hid (hD9.out.grow qA rA)
        have hSA := hid (grown_cs hS9.out qA (by intro e; injection e with e; omega))
        have hEA := hid (grown_cs hE9.out qA (by intro e; injection e with e; omega))
        clear e0 e1 e2 e3 rA qA hD9 hS9 hE9
        by_cases hyB : yA = 0
        · have hyd2 : decide ((0 : Int) < yA) = false := decide_eq_false (by omega)
          subst hyB
          obtain ⟨e0, e1, e2, e3⟩ := hEA.out.four
          obtain ⟨p0, p1, p2, p3⟩ := hSA.out.two
          go_upto_region 11 with (fail)
          have hDB := hid (hDA.out.set8 h68 (.int .i64 t') (.int .i64 k'))
          have hSB := hid ((hSA.out.set 0 (.int .i64 t')).set 1 (.int .i64 k') : Cs _ _ _ #[.int .i64 t', .int .i64 k'])
          obtain ⟨WB, hWB⟩ : ∃ W, (wA.setCell ⟨b8, 0, none⟩ (.int .i64 t')).setCell ⟨b8, 1, none⟩ (.int .i64 k') = W := ⟨_, rfl⟩
          rw [hWB] at hDB hSB
          rw [hWB]
          clear hWB hDA hSA hEA e0 e1 e2 e3 p0 p1 p2 p3
          have hbz : b6 ≠ w.heap.size ∧ b6 ≠ w.heap.size + 1 ∧ b8 ≠ w.heap.size ∧ b8 ≠ w.heap.size + 1 := by have := hDB.out.hg; have := hDB.out.h6; omega
          have KF : Hid (∀ Y, Kp (fun b => b = w.heap.size ∨ b = w.heap.size + 1) WB Y → (Y.cell? ⟨b6, 0, none⟩ = some (.int .i64 id) ∧ Y.cell? ⟨b6, 1, none⟩ = some (.int .i64 ck) ∧ Y.cell? ⟨b6, 2, none⟩ = some (.slice (some ⟨pb, 0, none⟩) Pn.length c1) ∧ Y.cell? ⟨b6, 3, none⟩ = some (.slice A2 Dn.length c2)) ∧ Y.cell? ⟨b8, 0, none⟩ = some (.int .i64 t') ∧ Y.cell? ⟨b8, 1, none⟩ = some (.int .i64 k')) := hid (fun Y h => ⟨(hDB.out.c6.kp h (by omega)).four, (hSB.out.kp h (by omega)).two.1, (hSB.out.kp h (by omega)).two.2.1⟩)
          have K0 := hid (Kp.refl (fun b => b = w.heap.size ∨ b = w.heap.size + 1) WB)
          have Q4 := hid (KF.out _ (K0.out.set4 (b := w.heap.size) (.inl rfl) (.int .i64 id) (.int .i64 ck) (.slice (some ⟨pb, 0, none⟩) Pn.length c1) (.slice A2 Dn.length c2)).drew)
          have Q42 := hid (KF.out _ ((K0.out.set4 (b := w.heap.size) (.inl rfl) (.int .i64 id) (.int .i64 ck) (.slice (some ⟨pb, 0, none⟩) Pn.length c1) (.slice A2 Dn.length c2)).set2 (b := w.heap.size + 1) (.inr rfl) (.int .i64 t') (.int .i64 k')).drew)
          have Q2 := hid (KF.out _ (K0.out.set2 (b := w.heap.size + 1) (.inr rfl) (.int .i64 t') (.int .i64 k')).drew)
          have Q24 := hid (KF.out _ ((K0.out.set2 (b := w.heap.size + 1) (.inr rfl) (.int .i64 t') (.int .i64 k')).set4 (b := w.heap.size) (.inl rfl) (.int .i64 id) (.int .i64 ck) (.slice (some ⟨pb, 0, none⟩) Pn.length c1) (.slice A2 Dn.length c2)).drew)
          obtain ⟨r0, r1, r2, r3⟩ := hDB.out.r2.four
          obtain ⟨f0, f1, f2, f3⟩ := hDB.out.r2.free4
          obtain ⟨s0, s1, s2, s3⟩ := hDB.out.r4.two
          have hfin := hid (hDB.out.fin t' k')
          have h4 := hid hfin.out.2.2.1.drew.four
          have h2 := hid hfin.out.2.2.2.drew.two
          have qx := hid (KF.out _ K0.out.drew)
          go_region_held3 (fun w' => (w'.cell? ⟨b6, 0, none⟩ = some (.int .i64 id) ∧ w'.cell? ⟨b6, 1, none⟩ = some (.int .i64 ck) ∧ w'.cell? ⟨b6, 2, none⟩ = some (.slice (some ⟨pb, 0, none⟩) Pn.length c1) ∧ w'.cell? ⟨b6, 3, none⟩ = some (.slice A2 Dn.length c2)) ∧ w'.cell? ⟨b8, 0, none⟩ = some (.int .i64 t') ∧ w'.cell? ⟨b8, 1, none⟩ = some (.int .i64 k'))
            (first | with_reducible exact qx.out | with_reducible exact Q4.out | with_reducible exact Q42.out | with_reducible exact Q2.out | with_reducible exact Q24.out)
            (fail)
          all_goals
            go_wp2
            exact bodyPost_ret (v := .tuple #[gpV id ck (.slice (some ⟨pb, 0, none⟩) Pn.length c1) (.slice A2 Dn.length c2), .int .i64 m', two t' k']) (by simp [results, Try.results12, go_sem, h4.out.1, h4.out.2.1, h4.out.2.2.1, h4.out.2.2.2, h2.out.1, h2.out.2.1]) rfl ⟨id, ck, _, c1, A2, c2, Pn, Dn, m', t', k', rfl, hfin.out.1.drew, hl.out, hfin.out.2.1.drew⟩
        · have hyd2 : (0 : Int) < yA := by omega
          obtain ⟨e0, e1, e2, e3⟩ := hEA.out.four
          have qe := e1
          have KB : Hid (∀ X n', wA.grownBy X (some g) → Rdr X g g n' → Dr w X g b6 n' id ck (some ⟨pb, 0, none⟩) c1 A2 c2 Pn Dn ∧ Cs X b8 29 #[.int .i64 t, .int .i64 k] ∧ X.cell? ⟨b9, 1, none⟩ = some (.int .i64 t')) := hid (fun X n' h r => ⟨hDA.out.grow h r, grown_cs hSA.out h (by intro e; injection e with e; omega), (grown_cs hEA.out h (by intro e; injection e with e; omega)).cell 1⟩)
          have GD := hid (show wA.grownBy wA.drew (some g) from grown_drewN (World.grownBy.refl _ _) 1)
          have rD := hid (show Rdr wA.drew g g (n9 + 1) from hDA.out.rd)
          have hn91 := hid (show n9 + 1 ≤ 1000000 by omega)
          have hn92 := hid (show n9 + 1 + 1 ≤ 1000000 by omega)
          go_upto_region 9 with (fail)
          go_region_held3 (fun w' => w'.cell? ⟨b9, 1, none⟩ = some (.int .i64 t'))
            (first | with_reducible exact qe | with_reducible exact (KB.out _ _ GD.out rD.out).2.2 | with_reducible exact (KB.out _ _ GB.out rB.out).2.2 | with_reducible exact (KB.out _ _ GC.out rC.out).2.2 | with_reducible exact qs | go_keep)
            (first
              | (go_at_call 33; (with_reducible refine (pick_any 4 _ rD.out hn91.out (by decide) (by decide)).mono ?_); rintro e wB ⟨yB, rfl, hyB1, hyB2, rB, qB, -⟩; have GB := hid (grown_set GD.out qB); have rB := hid rB; clear qB)
              | (go_at_call 33; (with_reducible refine (pick_any 5 _ rB.out hn92.out (by decide) (by decide)).mono ?_); rintro e wC ⟨yC, rfl, hyC1, hyC2, rC, qC, -⟩; have GC := hid (grown_set GB.out qC); have rC := hid rC; clear qC; obtain ⟨dD, dS, dE⟩ := KB.out _ _ GC.out rC.out; obtain ⟨p0, p1, p2, p3⟩ := dS.two; have qs := (show ((wC.setCell ⟨b8, 0, none⟩ (.int .i64 (IntKind.i64.wrap (t' + yB)))).setCell ⟨b8, 1, none⟩ (.int .i64 yC)).cell? ⟨b9, 1, none⟩ = some (.int .i64 t') from (World.cell?_setCell_other _ _ _ _ (by simp [h98])).trans ((World.cell?_setCell_other _ _ _ _ (by simp [h98])).trans dE)); have dD := hid dD; have dS := hid dS))
          all_goals
            obtain ⟨tw, htw⟩ : ∃ tw, IntKind.i64.wrap (t' + yB) = tw := ⟨_, rfl⟩
            (try rw [htw])
            go_upto_region 11 with (fail)
            have hDB := hid (dD.out.set8 h68 (.int .i64 tw) (.int .i64 yC))
            have hSB := hid ((dS.out.set 0 (.int .i64 tw)).set 1 (.int .i64 yC) : Cs _ _ _ #[.int .i64 tw, .int .i64 yC])
            obtain ⟨WB, hWB⟩ : ∃ W, (wC.setCell ⟨b8, 0, none⟩ (.int .i64 tw)).setCell ⟨b8, 1, none⟩ (.int .i64 yC) = W := ⟨_, rfl⟩
            rw [hWB] at hDB hSB
            rw [hWB]
            clear hWB hDA hSA hEA e0 e1 e2 e3 p0 p1 p2 p3 qs qe KB GD rD dD dS dE GB GC rB rC
            have hbz : b6 ≠ w.heap.size ∧ b6 ≠ w.heap.size + 1 ∧ b8 ≠ w.heap.size ∧ b8 ≠ w.heap.size + 1 := by have := hDB.out.hg; have := hDB.out.h6; omega
            have KF : Hid (∀ Y, Kp (fun b => b = w.heap.size ∨ b = w.heap.size + 1) WB Y → (Y.cell? ⟨b6, 0, none⟩ = some (.int .i64 id) ∧ Y.cell? ⟨b6, 1, none⟩ = some (.int .i64 ck) ∧ Y.cell? ⟨b6, 2, none⟩ = some (.slice (some ⟨pb, 0, none⟩) Pn.length c1) ∧ Y.cell? ⟨b6, 3, none⟩ = some (.slice A2 Dn.length c2)) ∧ Y.cell? ⟨b8, 0, none⟩ = some (.int .i64 tw) ∧ Y.cell? ⟨b8, 1, none⟩ = some (.int .i64 yC)) := hid (fun Y h => ⟨(hDB.out.c6.kp h (by omega)).four, (hSB.out.kp h (by omega)).two.1, (hSB.out.kp h (by omega)).two.2.1⟩)
            have K0 := hid (Kp.refl (fun b => b = w.heap.size ∨ b = w.heap.size + 1) WB)
            have Q4 := hid (KF.out _ (K0.out.set4 (b := w.heap.size) (.inl rfl) (.int .i64 id) (.int .i64 ck) (.slice (some ⟨pb, 0, none⟩) Pn.length c1) (.slice A2 Dn.length c2)).drew)
            have Q42 := hid (KF.out _ ((K0.out.set4 (b := w.heap.size) (.inl rfl) (.int .i64 id) (.int .i64 ck) (.slice (some ⟨pb, 0, none⟩) Pn.length c1) (.slice A2 Dn.length c2)).set2 (b := w.heap.size + 1) (.inr rfl) (.int .i64 tw) (.int .i64 yC)).drew)
            have Q2 := hid (KF.out _ (K0.out.set2 (b := w.heap.size + 1) (.inr rfl) (.int .i64 tw) (.int .i64 yC)).drew)
            have Q24 := hid (KF.out _ ((K0.out.set2 (b := w.heap.size + 1) (.inr rfl) (.int .i64 tw) (.int .i64 yC)).set4 (b := w.heap.size) (.inl rfl) (.int .i64 id) (.int .i64 ck) (.slice (some ⟨pb, 0, none⟩) Pn.length c1) (.slice A2 Dn.length c2)).drew)
            obtain ⟨r0, r1, r2, r3⟩ := hDB.out.r2.four
            obtain ⟨f0, f1, f2, f3⟩ := hDB.out.r2.free4
            obtain ⟨s0, s1, s2, s3⟩ := hDB.out.r4.two
            have hfin := hid (hDB.out.fin tw yC)
            have h4 := hid hfin.out.2.2.1.drew.four
            have h2 := hid hfin.out.2.2.2.drew.two
            have qx := hid (KF.out _ K0.out.drew)
            go_region_held3 (fun w' => (w'.cell? ⟨b6, 0, none⟩ = some (.int .i64 id) ∧ w'.cell? ⟨b6, 1, none⟩ = some (.int .i64 ck) ∧ w'.cell? ⟨b6, 2, none⟩ = some (.slice (some ⟨pb, 0, none⟩) Pn.length c1) ∧ w'.cell? ⟨b6, 3, none⟩ = some (.slice A2 Dn.length c2)) ∧ w'.cell? ⟨b8, 0, none⟩ = some (.int .i64 tw) ∧ w'.cell? ⟨b8, 1, none⟩ = some (.int .i64 yC))
              (first | with_reducible exact qx.out | with_reducible exact Q4.out | with_reducible exact Q42.out | with_reducible exact Q2.out | with_reducible exact Q24.out)
              (fail)
            all_goals
              go_wp2
              exact bodyPost_ret (v := .tuple #[gpV id ck (.slice (some ⟨pb, 0, none⟩) Pn.length c1) (.slice A2 Dn.length c2), .int .i64 m', two tw yC]) (by simp [results, Try.results12, go_sem, h4.out.1, h4.out.2.1, h4.out.2.2.1, h4.out.2.2.2, h2.out.1, h2.out.2.1]) rfl ⟨id, ck, _, c1, A2, c2, Pn, Dn, m', tw, yC, rfl, hfin.out.1.drew, hl.out, hfin.out.2.1.drew⟩
end Go.Proofs.Ytbnmeedmeikepaa
