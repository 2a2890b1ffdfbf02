/-
  What the draw of a group leaves: some short group, in memory of its own. No condition but a reader with room.
-/
import Derived.Test.YtbnmeedmeikepaaGmX
import Derived.Test.YtbnmeedmeikepaaStF
import Derived.Deep.DeepCutAuto
namespace Go.Proofs.Ytbnmeedmeikepaa
open Go.RowKit
set_option linter.unusedVariables false
set_option linter.unusedSimpArgs false
attribute [local go_sem ↓] Go.wp_at_zero Go.wp_at_succ

/-! ### lengths and clocks -/
theorem prA_len {g g' : Gp} {m : Int} {s : St} {b : Bool} (h : prA g m = (g', s, b)) (h0 : 0 ≤ g.ck) : g'.P.length + g'.D.length ≤ g.P.length + g.D.length + 1 ∧ 0 ≤ g'.ck ∧ g'.ck ≤ g.ck + 1 := by
  unfold prA at h
  split at h
  · simp only [Prod.mk.injEq] at h
    rw [← h.1]; exact ⟨by omega, by omega, by omega⟩
  · split at h
    · simp only [Prod.mk.injEq] at h
      rw [← h.1]; exact ⟨by omega, by omega, by omega⟩
    · simp only [Prod.mk.injEq] at h
      rw [← h.1]
      refine ⟨?_, ?_, ?_⟩
      · show (g.P ++ [_]).length + g.D.length ≤ _
        simp; omega
      · show 0 ≤ g.ck + 1; omega
      · show g.ck + 1 ≤ g.ck + 1; omega

theorem fiA_len {g g' : Gp} {m : Int} {s : St} {T : List Int} {b : Bool} (h : fiA g m s = (g', T, b)) (h0 : 0 ≤ g.ck) : g'.P.length + g'.D.length ≤ g.P.length + g.D.length ∧ 0 ≤ g'.ck ∧ g'.ck ≤ max g.ck s.1 := by
  unfold fiA at h
  split at h
  · rename_i hf
    simp only [Prod.mk.injEq] at h
    rw [← h.1]
    simp only [fiOk, Bool.and_eq_true, decide_eq_true_eq] at hf
    have h1 := (plI_ge hf.1.1.1).1
    have h2 : (ins g.P m s).length = g.P.length := ins_len rfl h1
    have h3 := congrArg List.length (tld_lft (ins g.P m s))
    rw [List.length_append] at h3
    refine ⟨?_, ?_, Int.le_refl _⟩
    · show (lft (ins g.P m s)).length + (g.D ++ tld (ins g.P m s)).length ≤ _
      rw [List.length_append]; omega
    · show 0 ≤ max g.ck s.1; omega
  · simp only [Prod.mk.injEq] at h
    rw [← h.1]; exact ⟨by omega, by omega, by omega⟩

/-! ### a part of an entry stored -/
theorem set_self {α : Type} {l : List α} {i : Nat} {x : α} (h : l[i]? = some x) : l.set i x = l := by
  obtain ⟨hi, e⟩ := List.getElem?_eq_some_iff.1 h
  rw [← e]; exact List.set_getElem_self hi

theorem enc_setS {l : List En} {k : Nat} (h : k < l.length) (t g : Int) : ((enc l).set (k * 4 + 1) (.int .i64 t)).set (k * 4 + 2) (.int .i64 g) = enc (l.set k ((atE l k).1, (t, g), (atE l k).2.2)) := by
  have hg := enc_get l k _ (get_atE h)
  rw [enc_set]
  simp only
  rw [set_self hg.1, set_self (i := k * 4 + 3)]
  rw [List.getElem?_set_ne (by omega), List.getElem?_set_ne (by omega)]
  exact hg.2.2.2

theorem enc_setF {l : List En} {k : Nat} (h : k < l.length) (f : Bool) : (enc l).set (k * 4 + 3) (.bool f) = enc (l.set k ((atE l k).1, (atE l k).2.1, f)) := by
  have hg := enc_get l k _ (get_atE h)
  rw [enc_set]
  simp only
  rw [set_self hg.1, set_self hg.2.1, set_self hg.2.2.1]

theorem enc_setM {l : List En} {k : Nat} (h : k < l.length) (m : Int) : (enc l).set (k * 4) (.int .i64 m) = enc (l.set k (m, (atE l k).2.1, (atE l k).2.2)) := by
  have hg := enc_get l k _ (get_atE h)
  rw [enc_set]
  simp only
  rw [set_self (l := (enc l).set (k * 4) (.int .i64 m)) (i := k * 4 + 1), set_self (l := (enc l).set (k * 4) (.int .i64 m)) (i := k * 4 + 2), set_self (i := k * 4 + 3)]
  · rw [List.getElem?_set_ne (by omega)]; exact hg.2.2.2
  · rw [List.getElem?_set_ne (by omega)]; exact hg.2.2.1
  · rw [List.getElem?_set_ne (by omega)]; exact hg.2.1
section
variable {w : World} {B g n c : Nat} {zs : List En}

theorem OwE.putS (h : OwE w B (.slice (some ⟨g, 0, none⟩) zs.length c) zs) {k : Nat} (hk : k < zs.length) (t s : Int) : ∃ ys : List En, ys.length = zs.length ∧ OwE ((w.setCell ⟨g, k * 4 + 1, none⟩ (.int .i64 t)).setCell ⟨g, k * 4 + 2, none⟩ (.int .i64 s)) B (.slice (some ⟨g, 0, none⟩) zs.length c) ys := by
  refine ⟨zs.set k ((atE zs k).1, (t, s), (atE zs k).2.2), List.length_set, ?_⟩
  have h1 := (h.stored (k * 4 + 1) (.int .i64 t)).1
  have h2 := (h1.stored (k * 4 + 2) (.int .i64 s)).1
  show World.ownsRow _ B 34 4 _ (zs.set k _).length (enc (zs.set k _))
  rw [← enc_setS hk, List.length_set]
  exact h2

theorem OwE.putF (h : OwE w B (.slice (some ⟨g, 0, none⟩) zs.length c) zs) {k : Nat} (hk : k < zs.length) (f : Bool) : ∃ ys : List En, ys.length = zs.length ∧ OwE (w.setCell ⟨g, k * 4 + 3, none⟩ (.bool f)) B (.slice (some ⟨g, 0, none⟩) zs.length c) ys := by
  refine ⟨zs.set k ((atE zs k).1, (atE zs k).2.1, f), List.length_set, ?_⟩
  have h1 := (h.stored (k * 4 + 3) (.bool f)).1
  show World.ownsRow _ B 34 4 _ (zs.set k _).length (enc (zs.set k _))
  rw [← enc_setF hk, List.length_set]
  exact h1

theorem OwE.putM (h : OwE w B (.slice (some ⟨g, 0, none⟩) zs.length c) zs) {k : Nat} (hk : k < zs.length) (m : Int) : ∃ ys : List En, ys.length = zs.length ∧ OwE (w.setCell ⟨g, k * 4, none⟩ (.int .i64 m)) B (.slice (some ⟨g, 0, none⟩) zs.length c) ys := by
  refine ⟨zs.set k (m, (atE zs k).2.1, (atE zs k).2.2), List.length_set, ?_⟩
  have h1 := (h.stored (k * 4) (.int .i64 m)).1
  show World.ownsRow _ B 34 4 _ (zs.set k _).length (enc (zs.set k _))
  rw [← enc_setM hk, List.length_set]
  exact h1
end

/-! ### the group that is being drawn: its box gb, its lists, the result's box -/
structure Gs (w wr : World) (g gb : Nat) (id ck : Int) (A1 : Option Addr) (c1 : Nat) (A2 : Option Addr) (c2 : Nat) (Pn Dn : List En) : Prop where
  cs : Cs wr gb 25 #[.int .i64 id, .int .i64 ck, .slice A1 Pn.length c1, .slice A2 Dn.length c2]
  ow : OwG wr (w.heap.size + 1) A1 Pn.length c1 A2 Dn.length c2 Pn Dn
  ne : ∀ b, ((Value.slice A1 Pn.length c1).ownBlock = some b ∨ (Value.slice A2 Dn.length c2).ownBlock = some b) → b ≠ gb
  rs : Cs wr w.heap.size 25 #[.int .i64 0, .int .i64 0, .slice none 0 0, .slice none 0 0]
  lo : w.heap.size < gb
  gr : w.grownBy wr (some g)
section
variable {w wr w' : World} {g gb : Nat} {id ck : Int} {A1 : Option Addr} {c1 : Nat} {A2 : Option Addr} {c2 : Nat} {Pn Dn : List En}

theorem Gs.below (h : Gs w wr g gb id ck A1 c1 A2 c2 Pn Dn) (hb : Below wr.heap.size wr w') : Gs w w' g gb id ck A1 c1 A2 c2 Pn Dn :=
  ⟨h.cs.step hb, h.ow.below hb, h.ne, h.rs.step hb, h.lo, grown_below h.gr (hb.mono h.gr.size)⟩

theorem Gs.pick (h : Gs w wr g gb id ck A1 c1 A2 c2 Pn Dn) (hg : wr.grownBy w' (some g)) (hl : g < w.heap.size) : Gs w w' g gb id ck A1 c1 A2 c2 Pn Dn := by
  have hk : Kp (fun b => b = g) wr w' := (Kp.refl _ wr).grown hg (fun k e => .inr (by injection e with e; exact e.symm))
  have := h.lo
  exact ⟨h.cs.kp hk (by omega), h.ow.kp hk (fun b hb e => by omega), h.ne, h.rs.kp hk (by omega), h.lo, grown_set h.gr hg⟩

theorem Gs.put {id' ck' : Int} {A1' : Option Addr} {c1' : Nat} {A2' : Option Addr} {c2' : Nat} {P' D' : List En} (h : Gs w wr g gb id ck A1 c1 A2 c2 Pn Dn) (ho : OwG wr (w.heap.size + 1) A1' P'.length c1' A2' D'.length c2' P' D') (hne : ∀ b, ((Value.slice A1' P'.length c1').ownBlock = some b ∨ (Value.slice A2' D'.length c2').ownBlock = some b) → b ≠ gb) :
    Gs w ((((wr.setCell ⟨gb, 0, none⟩ (.int .i64 id')).setCell ⟨gb, 1, none⟩ (.int .i64 ck')).setCell ⟨gb, 2, none⟩ (.slice A1' P'.length c1')).setCell ⟨gb, 3, none⟩ (.slice A2' D'.length c2')) g gb id' ck' A1' c1' A2' c2' P' D' := by
  have hk := (Kp.refl (fun b => b = gb) wr).set4 (b := gb) rfl (.int .i64 id') (.int .i64 ck') (.slice A1' P'.length c1') (.slice A2' D'.length c2')
  have hl := h.lo
  exact ⟨h.cs.set4 _ _ _ _, ⟨hk.own ho.op (fun b hb e => hne b (.inl hb) e), hk.own ho.od (fun b hb e => hne b (.inr hb) e), rfl, rfl, ho.ne⟩, hne, h.rs.kp hk (by omega), hl,
    grown_far (grown_far (grown_far (grown_far h.gr (Nat.le_of_lt hl) _) (Nat.le_of_lt hl) _) (Nat.le_of_lt hl) _) (Nat.le_of_lt hl) _⟩

theorem Gs.setCk (h : Gs w wr g gb id ck A1 c1 A2 c2 Pn Dn) (z : Int) : Gs w (wr.setCell ⟨gb, 1, none⟩ (.int .i64 z)) g gb id z A1 c1 A2 c2 Pn Dn := by
  have hl := h.lo
  exact ⟨h.cs.set 1 _, ⟨h.ow.op.setFar (fun e => h.ne _ (.inl e) rfl) _, h.ow.od.setFar (fun e => h.ne _ (.inr e) rfl) _, rfl, rfl, h.ow.ne⟩, h.ne, h.rs.far (by simp; omega) _, hl, grown_far h.gr (Nat.le_of_lt hl) _⟩

theorem Gs.setId (h : Gs w wr g gb id ck A1 c1 A2 c2 Pn Dn) (z : Int) : Gs w (wr.setCell ⟨gb, 0, none⟩ (.int .i64 z)) g gb z ck A1 c1 A2 c2 Pn Dn := by
  have hl := h.lo
  exact ⟨h.cs.set 0 _, ⟨h.ow.op.setFar (fun e => h.ne _ (.inl e) rfl) _, h.ow.od.setFar (fun e => h.ne _ (.inr e) rfl) _, rfl, rfl, h.ow.ne⟩, h.ne, h.rs.far (by simp; omega) _, hl, grown_far h.gr (Nat.le_of_lt hl) _⟩
/-- cells of the first list's block turned -/
theorem Gs.setP {pb : Nat} {ys : List En} (h : Gs w wr g gb id ck (some ⟨pb, 0, none⟩) c1 A2 c2 Pn Dn) (hk : Kp (fun b => b = pb) wr w') (hy : ys.length = Pn.length) (ho : OwE w' (w.heap.size + 1) (.slice (some ⟨pb, 0, none⟩) Pn.length c1) ys) : Gs w w' g gb id ck (some ⟨pb, 0, none⟩) c1 A2 c2 ys Dn := by
  have hl := h.lo
  have hp := h.ow.op.lt pb rfl
  have hpg := h.ne pb (.inl rfl)
  have hg : w.grownBy w' (some g) := ⟨hk.os.trans h.gr.os, hk.tape.trans h.gr.tape, hk.output.trans h.gr.output, Nat.le_trans h.gr.size hk.size, fun i h1 h2 => (hk.block i (Nat.lt_of_lt_of_le h1 h.gr.size) (by omega)).trans (h.gr.block i h1 h2)⟩
  refine ⟨by rw [hy]; exact h.cs.kp hk (fun e => hpg e.symm), ⟨by rw [hy]; exact ho, hk.own h.ow.od (fun b hb e => by subst e; exact h.ow.ne b rfl hb), rfl, rfl, fun b h1 => ?_⟩, fun b h1 => ?_, h.rs.kp hk (by omega), hl, hg⟩
  · rw [hy] at h1; exact h.ow.ne b h1
  · rw [hy] at h1; exact h.ne b h1

theorem Gs.setD {pb : Nat} {ys : List En} (h : Gs w wr g gb id ck A1 c1 (some ⟨pb, 0, none⟩) c2 Pn Dn) (hk : Kp (fun b => b = pb) wr w') (hy : ys.length = Dn.length) (ho : OwE w' (w.heap.size + 1) (.slice (some ⟨pb, 0, none⟩) Dn.length c2) ys) : Gs w w' g gb id ck A1 c1 (some ⟨pb, 0, none⟩) c2 Pn ys := by
  have hl := h.lo
  have hp := h.ow.od.lt pb rfl
  have hpg := h.ne pb (.inr rfl)
  have hg : w.grownBy w' (some g) := ⟨hk.os.trans h.gr.os, hk.tape.trans h.gr.tape, hk.output.trans h.gr.output, Nat.le_trans h.gr.size hk.size, fun i h1 h2 => (hk.block i (Nat.lt_of_lt_of_le h1 h.gr.size) (by omega)).trans (h.gr.block i h1 h2)⟩
  refine ⟨by rw [hy]; exact h.cs.kp hk (fun e => hpg e.symm), ⟨hk.own h.ow.op (fun b hb e => by subst e; exact h.ow.ne b hb rfl), by rw [hy]; exact ho, rfl, rfl, fun b h1 => ?_⟩, fun b h1 => ?_, h.rs.kp hk (by omega), hl, hg⟩
  · rw [hy]; exact h.ow.ne b h1
  · rw [hy] at h1; exact h.ne b h1
end
/-- behind a final stamp: the drawn group as it was, another in a box of its own -/
def CutL (w : World) (B g gb Q k : Nat) (id ck : Int) (A1 : Option Addr) (c1 : Nat) (A2 : Option Addr) (c2 : Nat) (Pn Dn : List En) (v o : Value) (wx : World) : Prop :=
  ∃ (bx : Nat) (id' ck' : Int) (b' : Bool) (B1 : Option Addr) (d1 : Nat) (B2 : Option Addr) (d2 : Nat) (P' D' : List En), v = .pointer (some ⟨bx, 0, none⟩) ∧ o = .bool b' ∧ gb < bx ∧ Hid (Gs w wx g gb id ck A1 c1 A2 c2 Pn Dn) ∧ Hid (OwG wx (gb + 1) B1 P'.length d1 B2 D'.length d2 P' D') ∧ Hid (Cs wx bx 25 #[.int .i64 id', .int .i64 ck', .slice B1 P'.length d1, .slice B2 D'.length d2]) ∧ Hid (P'.length + D'.length ≤ k + 1) ∧ Hid (0 ≤ ck' ∧ ck' ≤ 10 * ((k + 1 : Nat) : Int)) ∧ Hid (Rdr wx B g Q)
section
variable {w w5 X : World} {B g gb Q k lo bx : Nat} {id ck id' ck' : Int} {A1 : Option Addr} {c1 : Nat} {A2 : Option Addr} {c2 : Nat} {Pn Dn P' D' : List En} {b' : Bool} {B1 B2 : Option Addr} {d1 d2 : Nat}

theorem CutL.fresh (hG : Gs w w5 g gb id ck A1 c1 A2 c2 Pn Dn) (hgl : g < w.heap.size) (hg : w5.grownBy X (some g)) (hlo : w5.heap.size ≤ lo) (ho : OwG X lo B1 P'.length d1 B2 D'.length d2 P' D') (hr : Rdr X B g Q) (hl : P'.length + D'.length ≤ k + 1) (hc : 0 ≤ ck' ∧ ck' ≤ 10 * ((k + 1 : Nat) : Int)) :
    CutL w B g gb Q k id ck A1 c1 A2 c2 Pn Dn (.pointer (some ⟨X.heap.size, 0, none⟩)) (.bool b') (X.alloc (.cells #[.int .i64 id', .int .i64 ck', .slice B1 P'.length d1, .slice B2 D'.length d2] 25)) := by
  have h1 := hG.cs.lt
  have h2 := hg.size
  exact ⟨_, id', ck', b', B1, d1, B2, d2, P', D', rfl, rfl, by omega, hid ((hG.pick hg hgl).below (below1 X _)), hid ((ho.below (below1 X _)).more (by omega)), hid (Cs.new X _ _), hid hl, hid hc, hid (hr.allocs _)⟩

theorem CutL.old (hG : Gs w w5 g gb id ck A1 c1 A2 c2 Pn Dn) (hgl : g < w.heap.size) (hg : w5.grownBy X (some g)) (z : Cs X bx 25 #[.int .i64 0, .int .i64 0, .slice none 0 0, .slice none 0 0]) (hb : w5.heap.size ≤ bx) (hbl : bx < lo) (ho : OwG X lo B1 P'.length d1 B2 D'.length d2 P' D') (hr : Rdr X B g Q) (hl : P'.length + D'.length ≤ k + 1) (hc : 0 ≤ ck' ∧ ck' ≤ 10 * ((k + 1 : Nat) : Int)) :
    CutL w B g gb Q k id ck A1 c1 A2 c2 Pn Dn (.pointer (some ⟨bx, 0, none⟩)) (.bool b') ((((X.setCell ⟨bx, 0, none⟩ (.int .i64 id')).setCell ⟨bx, 1, none⟩ (.int .i64 ck')).setCell ⟨bx, 2, none⟩ (.slice B1 P'.length d1)).setCell ⟨bx, 3, none⟩ (.slice B2 D'.length d2)) := by
  have h1 := hG.cs.lt
  have h2 := hG.gr.size
  have hk := (Kp.refl (fun k => k = bx) X).set4 (b := bx) rfl (.int .i64 id') (.int .i64 ck') (.slice B1 P'.length d1) (.slice B2 D'.length d2)
  have hg' := grown_far (grown_far (grown_far (grown_far hg (p := ⟨bx, 0, none⟩) hb (.int .i64 id')) (p := ⟨bx, 1, none⟩) hb (.int .i64 ck')) (p := ⟨bx, 2, none⟩) hb (.slice B1 P'.length d1)) (p := ⟨bx, 3, none⟩) hb (.slice B2 D'.length d2)
  have hgb : g < bx := by omega
  exact ⟨bx, id', ck', b', B1, d1, B2, d2, P', D', rfl, rfl, by omega, hid (hG.pick hg' hgl), hid ((ho.kp hk (fun b h1 h2 => by omega)).more (by omega)), hid (z.set4 _ _ _ _), hid hl, hid hc, hid ((((hr.far (p := ⟨bx, 0, none⟩) hgb _).far (p := ⟨bx, 1, none⟩) hgb _).far (p := ⟨bx, 2, none⟩) hgb _).far (p := ⟨bx, 3, none⟩) hgb _)⟩
end

def GrpPost (B g P : Nat) (w : World) (e : Ending) (w' : World) : Prop :=
  ∃ (id ck : Int) (A1 : Option Addr) (c1 : Nat) (A2 : Option Addr) (c2 : Nat) (Pn Dn : List En), e = .returned (gpV id ck (.slice A1 Pn.length c1) (.slice A2 Dn.length c2)) ∧ OwG w' w.heap.size A1 Pn.length c1 A2 Dn.length c2 Pn Dn ∧ Pn.length + Dn.length ≤ 13 ∧ Rdr w' B g (P + 90) ∧ w.grownBy w' (some g)

set_option maxRecDepth 100000 in
set_option maxHeartbeats 8000000 in
theorem l91Group_any {B g P : Nat} (w : World) (h : Rdr w B g P) (hP : P ≤ 800000) :
    Calls Try.prog 21 #[.pointer (some ⟨g, 0, none⟩)] w (GrpPost B g P w) := by
  have hgl := h.lt
  have r0 := hid (h.allocs (.cells #[.int .i64 0, .int .i64 0, .slice none 0 0, .slice none 0 0] 25))
  have g0 := hid (World.grownBy_alloc w (.cells #[.int .i64 0, .int .i64 0, .slice none 0 0, .slice none 0 0] 25) (some g))
  have a0 := hid (Cs.new w 25 #[.int .i64 0, .int .i64 0, .slice none 0 0, .slice none 0 0])
  clear h
  go_enter Try.func21, Try.ntmps21
  go_wp2_with fail
  refine (pick_any 5 _ r0.out (by omega) (by omega) (by omega)).mono ?_
  rintro e w1 ⟨x1, rfl, hx1, hy1, r1, q1, s1⟩
  have hk1 := hid ((Kp.refl (fun b => b = g) _).grown q1 (fun k e => .inr (by injection e with e; exact e.symm)))
  have a1 := hid (a0.out.kp hk1.out (by omega))
  have g1 := hid (grown_set g0.out q1)
  have r1' := hid r1
  have hz1 : w1.heap.size = w.heap.size + 1 := by rw [s1]; simp
  clear q1 s1 r0 g0 a0 hk1 r1
  go_wp2_with fail
  refine (GroupNew_spec x1 _).mono ?_
  rintro e w2 ⟨A1, c1, A2, c2, rfl, ho2, hb2⟩
  have hz2 := hb2.size
  have hlo2 : w.heap.size < w2.heap.size := by omega
  have r2 := hid (r1'.out.below hb2 (by omega))
  have hGs0 : Hid (Gs w (w2.alloc (.cells #[.int .i64 (if grB x1 then x1 else 0), .int .i64 0, .slice A1 0 c1, .slice A2 0 c2] 25)) g w2.heap.size (if grB x1 then x1 else 0) 0 A1 c1 A2 c2 [] []) := hid (by
    have hb := below1 w2 (.cells #[.int .i64 (if grB x1 then x1 else 0), .int .i64 0, .slice A1 0 c1, .slice A2 0 c2] 25)
    refine ⟨Cs.new w2 _ _, (ho2.below hb).more (by omega), fun b h1 => ?_, (a1.out.step hb2).step hb, by omega, grown_below (grown_below g1.out (hb2.mono (by omega))) (hb.mono (by omega))⟩
    rcases h1 with h1 | h1
    · have := (ho2.op.lt b h1).2; omega
    · have := (ho2.od.lt b h1).2; omega)
  have r2' := hid (r2.out.allocs (.cells #[.int .i64 (if grB x1 then x1 else 0), .int .i64 0, .slice A1 0 c1, .slice A2 0 c2] 25))
  obtain ⟨z1, hz1e⟩ : ∃ z, (if grB x1 then x1 else 0) = z := ⟨_, rfl⟩
  rw [hz1e] at hGs0 r2' ⊢
  clear hz1e ho2 hb2 a1 g1 r1' r2
  go_upto_block 0 with (fail)
  go_cut [5] (fun v wx => ∃ (k : Nat) (id ck : Int) (A1 : Option Addr) (c1 : Nat) (A2 : Option Addr) (c2 : Nat) (Pn Dn : List En), v = .int .i64 (k : Int) ∧ Hid (Gs w wx g w2.heap.size id ck A1 c1 A2 c2 Pn Dn) ∧ Hid (Pn.length + Dn.length ≤ 13) ∧ Hid (Rdr wx B g (P + 70)))
  case first =>
    go_wp2_with fail
    go_loopw [5] (fun v wr => ∃ (k : Nat) (id ck : Int) (A1 : Option Addr) (c1 : Nat) (A2 : Option Addr) (c2 : Nat) (Pn Dn : List En), v = .int .i64 (k : Int) ∧ k ≤ 13 ∧ Hid (Gs w wr g w2.heap.size id ck A1 c1 A2 c2 Pn Dn) ∧ Hid (Pn.length + Dn.length ≤ k) ∧ Hid (0 ≤ ck ∧ ck ≤ 10 * (k : Int)) ∧ Hid (Rdr wr B g (P + 1 + 5 * k))) (fun v _ => 13 - (intOf v).toNat)
    case atStart => exact ⟨0, _, _, _, _, _, _, [], [], rfl, by omega, hGs0, hid (Nat.le_refl _), hid (by omega), hid r2'.out⟩
    case round =>
      clear hGs0 r2'
      obtain ⟨k, id, ck, A1, c1, A2, c2, Pn, Dn, rfl, hk, hG, hL, hC, hR⟩ := hrel
      go_wp2_with fail
      refine (pick_any 14 _ hR.out (by omega) (by omega) (by omega)).mono ?_
      rintro e w3 ⟨x3, rfl, hx3, hy3, r3, q3, -⟩
      have hG3 := hid (hG.out.pick q3 hgl)
      have r3' := hid r3
      clear q3 r3
      by_cases hlt : (k : Int) < x3
      · go_wp2_with fail
        refine (pick_any 8 _ r3'.out (by omega) (by omega) (by omega)).mono ?_
        rintro e w4 ⟨x4, rfl, hx4, hy4, r4, q4, -⟩
        have hG4 := hid (hG3.out.pick q4 hgl)
        have r4' := hid r4
        clear q4 r4 hG3 r3'
        go_wp2_with fail
        refine (pick_any 2 _ r4'.out (by omega) (by omega) (by omega)).mono ?_
        rintro e w5 ⟨x5, rfl, hx5, hy5, r5, q5, -⟩
        have hG5 := hid (hG4.out.pick q5 hgl)
        have r5' := hid r5
        clear q5 r5 hG4 r4' hG hR
        have hrd5 := hid (hG5.out.ow.rdg (by have := hL.out; omega) (by have := hL.out; omega))
        obtain ⟨c0', c1', c2', c3'⟩ := hG5.out.cs.four
        rcases (show x5 = 0 ∨ x5 = 1 by omega) with rfl | rfl
        · obtain ⟨id', ck', P', D', t', k', b', hpr⟩ : ∃ id' ck' P' D' t' k' b', prA ⟨id, ck, Pn, Dn⟩ x4 = (⟨id', ck', P', D'⟩, (t', k'), b') := ⟨_, _, _, _, _, _, _, rfl⟩
          have hpl := hid (prA_len hpr hC.out.1)
          replace hpr := hid hpr
          go_wp2_with fail
          refine (l11Propose_as hpr.out _ hrd5.out (by have := hL.out; omega) hC.out.1).mono ?_
          rintro e w6 ⟨B1, d1, B2, d2, rfl, ho6, hb6⟩
          have hbb := below2 w6 (.cells #[.int .i64 id', .int .i64 ck', .slice B1 P'.length d1, .slice B2 D'.length d2] 25) (.cells #[.int .i64 t', .int .i64 k'] 29)
          have hG6 := hid ((hG5.out.below hb6).below hbb)
          have r6 := hid (((r5'.out.below hb6 (by have := hG5.out.gr.size; omega)).below hbb (by have := hG5.out.gr.size; have := hb6.size; omega)))
          have hO6 := hid (ho6.below hbb)
          have hT6 := hid ((Cs.new w6 25 #[.int .i64 id', .int .i64 ck', .slice B1 P'.length d1, .slice B2 D'.length d2]).alloc (.cells #[.int .i64 t', .int .i64 k'] 29))
          have hne6 := hid (show ∀ b, ((Value.slice B1 P'.length d1).ownBlock = some b ∨ (Value.slice B2 D'.length d2).ownBlock = some b) → w5.heap.size ≤ b from fun b h => by
            rcases h with h | h
            · exact (ho6.op.lt b h).1
            · exact (ho6.od.lt b h).1)
          have hgb5 := hG5.out.cs.lt
          have hlo5 := hG5.out.lo
          obtain ⟨W6, hW6⟩ : ∃ W, (w6.alloc (.cells #[.int .i64 id', .int .i64 ck', .slice B1 P'.length d1, .slice B2 D'.length d2] 25)).alloc (.cells #[.int .i64 t', .int .i64 k'] 29) = W := ⟨_, rfl⟩
          rw [hW6] at hG6 r6 hO6 hT6
          replace hW6 := hid hW6
          have hL6 := hid (show Pn.length + Dn.length ≤ k + 1 by have := hL.out; omega)
          have hC6 := hid (show 0 ≤ ck ∧ ck ≤ 10 * ((k + 1 : Nat) : Int) by have := hC.out; omega)
          have hL7 := hid (show P'.length + D'.length ≤ k + 1 by have h1 := hpl.out.1; have := hL.out; (try simp only at h1); omega)
          have hC7 := hid (show 0 ≤ ck' ∧ ck' ≤ 10 * ((k + 1 : Nat) : Int) by have h1 := hpl.out.2; have := hC.out; (try simp only at h1); omega)
          have r7 := hid (r6.out.le (show P + 1 + 5 * k + 1 + 1 + 1 ≤ P + 1 + 5 * (k + 1) by omega))
          have h67 : w6.heap.size < W6.heap.size := hT6.out.lt
          have h56 : w5.heap.size ≤ w6.heap.size := hb6.size
          have hd6 : w6.heap.size ≠ w2.heap.size := by omega
          clear hb6 ho6 hbb hrd5 c0' c1' c2' c3' r5' hL hC hpl hpr
          go_upto_region 8 with (fail)
          rw [hW6.out]
          obtain ⟨t0, t1, t2, t3⟩ := hT6.out.four
          obtain ⟨q0, q1, q2, q3⟩ := hG6.out.cs.four
          obtain ⟨f0, f1, f2, f3⟩ := hG6.out.cs.free4
          cases b' with
          | true =>
            have hG8 := hid (hG6.out.put (id' := id') (ck' := ck') (hO6.out.more (by omega)) (fun b h e => by have := hne6.out b h; omega))
            have hk8 := hid (((((r7.out.far (p := ⟨w2.heap.size, 0, none⟩) (by simp; omega) (.int .i64 id')).far (p := ⟨w2.heap.size, 1, none⟩) (by simp; omega) (.int .i64 ck')).far (p := ⟨w2.heap.size, 2, none⟩) (by simp; omega) (.slice B1 P'.length d1)).far (p := ⟨w2.heap.size, 3, none⟩) (by simp; omega) (.slice B2 D'.length d2)))
            clear hG6 hG5
            go_wp2
            go_roundw
            case rel => exact ⟨k + 1, _, _, _, _, _, _, P', D', by go_num, by omega, hG8, hL7, hC7, hk8⟩
            case measure => simp [intOf]; omega
          | false =>
            clear hG5
            go_wp2
            go_roundw
            case rel => exact ⟨k + 1, _, _, _, _, _, _, Pn, Dn, by go_num, by omega, hG6, hL6, hC6, r7⟩
            case measure => simp [intOf]; omega
        · have hw1 : IntKind.i64.wrap (ck + 3) = ck + 3 := IntWalk.i64_in _ (by have := hC.out; omega)
          have KA : Hid (∀ X, w5.grownBy X (some g) → X.cell? ⟨w2.heap.size, 0, none⟩ = some (.int .i64 id) ∧ X.cell? ⟨w2.heap.size, 1, none⟩ = some (.int .i64 ck) ∧ X.cell? ⟨w2.heap.size, 2, none⟩ = some (.slice A1 Pn.length c1) ∧ X.cell? ⟨w2.heap.size, 3, none⟩ = some (.slice A2 Dn.length c2)) := hid (fun X h => (hG5.out.pick h hgl).cs.four)
          have GD := hid (show w5.grownBy w5.drew (some g) from (grown_drewN (World.grownBy.refl w5 (some g)) 1))
          have GZ := hid (show w5.grownBy (w5.alloc (.cells #[.int .i64 0, .int .i64 0, .slice none 0 0, .slice none 0 0] 25)).drew (some g) from (grown_drewN (World.grownBy_alloc w5 (.cells #[.int .i64 0, .int .i64 0, .slice none 0 0, .slice none 0 0] 25) (some g)) 1))
          have CZ := hid (show Cs (w5.alloc (.cells #[.int .i64 0, .int .i64 0, .slice none 0 0, .slice none 0 0] 25)).drew w5.heap.size 25 #[.int .i64 0, .int .i64 0, .slice none 0 0, .slice none 0 0] from Cs.new w5 _ _)
          have rD := hid (show Rdr w5.drew B g (P + 1 + 5 * k + 1 + 1 + 1) from r5'.out)
          have rZ := hid (show Rdr (w5.alloc (.cells #[.int .i64 0, .int .i64 0, .slice none 0 0, .slice none 0 0] 25)).drew B g (P + 1 + 5 * k + 1 + 1 + 1) from r5'.out.allocs (.cells #[.int .i64 0, .int .i64 0, .slice none 0 0, .slice none 0 0] 25))
          have hck5 := hid (show 1 ≤ ck + 3 ∧ ck + 3 ≤ 1000000 by have := hC.out; omega)
          have hgw5 := r5'.out.lt
          have hg5 := hid (show (some g : Option Nat) ≠ some w5.heap.size from fun e => by injection e with e; omega)
          have hPP := hid (show P + 1 + 5 * k + 1 + 1 + 1 ≤ 1000000 by omega)
          have hPQ := hid (show P + 1 + 5 * k + 1 + 1 + 1 + 1 ≤ 1000000 by omega)
          have hn1 := hid (show Pn.length < 1099511627776 by have := hL.out; omega)
          have hn2 := hid (show Dn.length < 1099511627776 by have := hL.out; omega)
          have hn3 := hid (show Pn.length + Dn.length + 1 < 1099511627776 by have := hL.out; omega)
          have hgb5 := hG5.out.cs.lt
          clear c0' c1' c2' c3'
          go_upto_region 10 with (fail)
          go_cut [10, 12] (fun v o wx => CutL w B g w2.heap.size (P + 1 + 5 * k + 1 + 1 + 1 + 1 + 1) k id ck A1 c1 A2 c2 Pn Dn v o wx)
          case first =>
            go_region_held3 (fun w' => w'.cell? ⟨w2.heap.size, 0, none⟩ = some (.int .i64 id) ∧ w'.cell? ⟨w2.heap.size, 1, none⟩ = some (.int .i64 ck) ∧ w'.cell? ⟨w2.heap.size, 2, none⟩ = some (.slice A1 Pn.length c1) ∧ w'.cell? ⟨w2.heap.size, 3, none⟩ = some (.slice A2 Dn.length c2))
              (first | with_reducible exact KA.out _ GD.out | with_reducible exact KA.out _ GZ.out | with_reducible exact KA.out _ G1.out | with_reducible exact KA.out _ (grown_alloc G1.out _) | with_reducible exact KA.out _ G2.out | with_reducible exact KA.out _ (grown_alloc G2.out _) | with_reducible exact KA.out _ G3.out | with_reducible exact KA.out _ (grown_alloc G3.out _) | with_reducible exact KA.out _ (grown_far (grown_far (grown_far (grown_far G3.out (p := ⟨_, 0, none⟩) zb _) (p := ⟨_, 1, none⟩) zb _) (p := ⟨_, 2, none⟩) zb _) (p := ⟨_, 3, none⟩) zb _))
              (first | (go_at_call 33; (with_reducible refine (pick_any (ck + 3) _ rZ.out hPP.out hck5.out.1 hck5.out.2).mono ?_); rintro e X1 ⟨x1, rfl, hx1, hy1, r1, q1, -⟩; have G1 := hid (grown_set GZ.out q1); have z1 := hid (grown_cs CZ.out q1 hg5.out); have r1 := hid r1; have zb : w5.heap.size ≤ w5.heap.size := Nat.le_refl _; have hw2 : IntKind.i64.wrap (1 + x1) = 1 + x1 := IntWalk.i64_in _ (by have := hck5.out; omega); clear q1) | (go_at_call 33; (with_reducible refine (pick_any (ck + 3) _ rD.out hPP.out hck5.out.1 hck5.out.2).mono ?_); rintro e X1 ⟨x1, rfl, hx1, hy1, r1, q1, -⟩; have G1 := hid (grown_set GD.out q1); have r1 := hid r1; have hw2 : IntKind.i64.wrap (1 + x1) = 1 + x1 := IntWalk.i64_in _ (by have := hck5.out; omega); clear q1) | (go_at_call 33; (with_reducible refine (pick_any 5 _ r1.out hPQ.out (by decide) (by decide)).mono ?_); rintro e X2 ⟨x2, rfl, hx2, hy2, r2, q2, -⟩; have G2 := hid (grown_set G1.out q2); have z2 := hid (grown_cs z1.out q2 hg5.out); have r2 := hid r2; clear q2; obtain ⟨id', ck', P', D', T', b', hfi⟩ : ∃ id' ck' P' D' T' b', fiA ⟨id, ck, Pn, Dn⟩ x4 (1 + x1, x2) = (⟨id', ck', P', D'⟩, T', b') := ⟨_, _, _, _, _, _, rfl⟩; have hfl := hid (fiA_len hfi hC.out.1); replace hfi := hid hfi) | (go_at_call 33; (with_reducible refine (pick_any 5 _ (r1.out.allocs (.cells #[.int .i64 0, .int .i64 0, .slice none 0 0, .slice none 0 0] 25)) hPQ.out (by decide) (by decide)).mono ?_); rintro e X2 ⟨x2, rfl, hx2, hy2, r2, q2, -⟩; have hgX := r1.out.lt; have z2 := hid (grown_cs (Cs.new X1 25 #[.int .i64 0, .int .i64 0, .slice none 0 0, .slice none 0 0]) q2 (by intro e; injection e with e; omega)); have zb : w5.heap.size ≤ X1.heap.size := G1.out.size; have G2 := hid (grown_set (grown_alloc G1.out (.cells #[.int .i64 0, .int .i64 0, .slice none 0 0, .slice none 0 0] 25)) q2); have r2 := hid r2; clear q2; obtain ⟨id', ck', P', D', T', b', hfi⟩ : ∃ id' ck' P' D' T' b', fiA ⟨id, ck, Pn, Dn⟩ x4 (1 + x1, x2) = (⟨id', ck', P', D'⟩, T', b') := ⟨_, _, _, _, _, _, rfl⟩; have hfl := hid (fiA_len hfi hC.out.1); replace hfi := hid hfi) | (go_at_call 33; (with_reducible refine (pick_any 5 _ r1.out hPQ.out (by decide) (by decide)).mono ?_); rintro e X2 ⟨x2, rfl, hx2, hy2, r2, q2, -⟩; have G2 := hid (grown_set G1.out q2); have r2 := hid r2; clear q2; obtain ⟨id', ck', P', D', T', b', hfi⟩ : ∃ id' ck' P' D' T' b', fiA ⟨id, ck, Pn, Dn⟩ x4 (1 + x1, x2) = (⟨id', ck', P', D'⟩, T', b') := ⟨_, _, _, _, _, _, rfl⟩; have hfl := hid (fiA_len hfi hC.out.1); replace hfi := hid hfi) | (go_at_call 40; (with_reducible refine (l11Final_as hfi.out _ ((hG5.out.pick G2.out hgl).ow.rdg hn1.out hn2.out) hn3.out).mono ?_); rintro e X3 ⟨B1, d1, B2, d2, B3, d3, rfl, ho3, -, hb3⟩; have z3 := hid (z2.out.step hb3); have zlt := z2.out.lt; have hsz := G2.out.size; have G3 := hid (grown_below G2.out (hb3.mono G2.out.size)); have r3 := hid (r2.out.below hb3 r2.out.lt); have o3 := hid ho3; obtain ⟨zc0, zc1, zc2, zc3⟩ := z3.out.four; obtain ⟨zf0, zf1, zf2, zf3⟩ := z3.out.free4; have hL9 := hid (show P'.length + D'.length ≤ k + 1 by have h1 := hfl.out.1; have := hL.out; (try simp only at h1); omega); have hC9 := hid (show 0 ≤ ck' ∧ ck' ≤ 10 * ((k + 1 : Nat) : Int) by have h1 := hfl.out.2; have := hC.out; (try simp only at h1); omega); clear hb3 ho3) | (go_at_call 40; (with_reducible refine (l11Final_as hfi.out _ ((hG5.out.pick (grown_alloc G2.out (.cells #[.int .i64 0, .int .i64 0, .slice none 0 0, .slice none 0 0] 25)) hgl).ow.rdg hn1.out hn2.out) hn3.out).mono ?_); rintro e X3 ⟨B1, d1, B2, d2, B3, d3, rfl, ho3, -, hb3⟩; have zlt : X2.heap.size < (X2.alloc (.cells #[.int .i64 0, .int .i64 0, .slice none 0 0, .slice none 0 0] 25)).heap.size := (Cs.new X2 25 #[.int .i64 0, .int .i64 0, .slice none 0 0, .slice none 0 0]).lt; have z3 := hid ((Cs.new X2 25 #[.int .i64 0, .int .i64 0, .slice none 0 0, .slice none 0 0]).step hb3); have zb : w5.heap.size ≤ X2.heap.size := G2.out.size; have G3 := hid (grown_below (grown_alloc G2.out (.cells #[.int .i64 0, .int .i64 0, .slice none 0 0, .slice none 0 0] 25)) (hb3.mono (grown_alloc G2.out (.cells #[.int .i64 0, .int .i64 0, .slice none 0 0, .slice none 0 0] 25)).size)); have r3 := hid ((r2.out.allocs (.cells #[.int .i64 0, .int .i64 0, .slice none 0 0, .slice none 0 0] 25)).below hb3 (r2.out.allocs (.cells #[.int .i64 0, .int .i64 0, .slice none 0 0, .slice none 0 0] 25)).lt); have o3 := hid ho3; obtain ⟨zc0, zc1, zc2, zc3⟩ := z3.out.four; obtain ⟨zf0, zf1, zf2, zf3⟩ := z3.out.free4; have hL9 := hid (show P'.length + D'.length ≤ k + 1 by have h1 := hfl.out.1; have := hL.out; (try simp only at h1); omega); have hC9 := hid (show 0 ≤ ck' ∧ ck' ≤ 10 * ((k + 1 : Nat) : Int) by have h1 := hfl.out.2; have := hC.out; (try simp only at h1); omega); clear hb3 ho3) | (go_at_call 40; (with_reducible refine (l11Final_as hfi.out _ ((hG5.out.pick G2.out hgl).ow.rdg hn1.out hn2.out) hn3.out).mono ?_); rintro e X3 ⟨B1, d1, B2, d2, B3, d3, rfl, ho3, -, hb3⟩; have hsz := G2.out.size; have G3 := hid (grown_below G2.out (hb3.mono G2.out.size)); have r3 := hid (r2.out.below hb3 r2.out.lt); have o3 := hid ho3; have hL9 := hid (show P'.length + D'.length ≤ k + 1 by have h1 := hfl.out.1; have := hL.out; (try simp only at h1); omega); have hC9 := hid (show 0 ≤ ck' ∧ ck' ≤ 10 * ((k + 1 : Nat) : Int) by have h1 := hfl.out.2; have := hC.out; (try simp only at h1); omega); clear hb3 ho3))
            all_goals
              go_wp2
              go_meet
              first
                | exact CutL.old hG5.out hgl G3.out z3.out zb zlt o3.out r3.out hL9.out hC9.out
                | exact CutL.fresh hG5.out hgl G3.out hsz o3.out r3.out hL9.out hC9.out
          case rest =>
            clear KA GD GZ CZ rD rZ
            obtain ⟨bx, id', ck', b', B1, d1, B2, d2, P', D', rfl, rfl, hbx, hG9, hO9, hT9, hLA, hCA, hr9⟩ := hcut
            obtain ⟨W9, rfl⟩ : ∃ W, W = wc := ⟨_, rfl⟩
            have hL9 := hid (show Pn.length + Dn.length ≤ k + 1 by have := hL.out; omega)
            have hC9 := hid (show 0 ≤ ck ∧ ck ≤ 10 * ((k + 1 : Nat) : Int) by have := hC.out; omega)
            have rA := hid (hr9.out.le (show P + 1 + 5 * k + 1 + 1 + 1 + 1 + 1 ≤ P + 1 + 5 * (k + 1) by omega))
            have hd9 : bx ≠ w2.heap.size := by omega
            clear hrd5 r5' hL hC hG5 hr9
            obtain ⟨t0, t1, t2, t3⟩ := hT9.out.four
            obtain ⟨q0, q1, q2, q3⟩ := hG9.out.cs.four
            obtain ⟨f0, f1, f2, f3⟩ := hG9.out.cs.free4
            cases b' with
            | true =>
              have hGA := hid (hG9.out.put (id' := id') (ck' := ck') (hO9.out.more (by omega)) (fun b h e => by
                rcases h with h | h
                · have := (hO9.out.op.lt b h).1; omega
                · have := (hO9.out.od.lt b h).1; omega))
              have hkA := hid (((((rA.out.far (p := ⟨w2.heap.size, 0, none⟩) (by simp; omega) (.int .i64 id')).far (p := ⟨w2.heap.size, 1, none⟩) (by simp; omega) (.int .i64 ck')).far (p := ⟨w2.heap.size, 2, none⟩) (by simp; omega) (.slice B1 P'.length d1)).far (p := ⟨w2.heap.size, 3, none⟩) (by simp; omega) (.slice B2 D'.length d2)))
              clear hG9
              go_wp2
              go_roundw
              case rel => exact ⟨k + 1, _, _, _, _, _, _, P', D', by go_num, by omega, hGA, hLA, hCA, hkA⟩
              case measure => simp [intOf]; omega
            | false =>
              go_wp2
              go_roundw
              case rel => exact ⟨k + 1, _, _, _, _, _, _, Pn, Dn, by go_num, by omega, hG9, hL9, hC9, rA⟩
              case measure => simp [intOf]; omega
      · have hLf := hid (show Pn.length + Dn.length ≤ 13 by have := hL.out; omega)
        have hRf := hid (r3'.out.le (show P + 1 + 5 * k + 1 ≤ P + 70 by omega))
        go_wp2_with fail
        go_meet
        exact ⟨k, _, _, _, _, _, _, _, _, rfl, hG3, hLf, hRf⟩
  case rest =>
    clear hGs0 r2'
    obtain ⟨k, id, ck, A1, c1, A2, c2, Pn, Dn, rfl, hG, hL, hR⟩ := hcut
    obtain ⟨W3, rfl⟩ : ∃ W, W = wc := ⟨_, rfl⟩
    go_wp2_with fail
    refine (pick_any 18 _ hR.out (by omega) (by omega) (by omega)).mono ?_
    rintro e w4 ⟨x4, rfl, hx4, hy4, r4, q4, -⟩
    have hG4 := hid (hG.out.pick q4 hgl)
    have r4' := hid r4
    clear q4 r4 hG hR
    go_upto_block 2 with (fail)
    go_cut [5] (fun v wx => ∃ (id ck : Int) (A1 : Option Addr) (c1 : Nat) (A2 : Option Addr) (c2 : Nat) (Pn Dn : List En), v = .int .i64 (k : Int) ∧ Hid (Gs w wx g w2.heap.size id ck A1 c1 A2 c2 Pn Dn) ∧ Hid (Pn.length + Dn.length ≤ 13) ∧ Hid (Rdr wx B g (P + 90)))
    case first =>
      have hgb4 := hG4.out.cs.lt
      have hlo4 := hG4.out.lo
      rcases (show x4 = 0 ∨ x4 = 1 ∨ x4 = 2 ∨ x4 = 3 ∨ x4 = 4 ∨ 5 ≤ x4 by omega) with rfl | rfl | rfl | rfl | rfl | hx5
      · -- another clock
        have hbb := below1 w4 (.cells #[.int .i64 0, .int .i64 998, .int .i64 999, .int .i64 1000] 3)
        have hG5 := hid (hG4.out.below hbb)
        have r5 := hid (r4'.out.below hbb (by omega))
        have l5 : AtN (w4.alloc (.cells #[.int .i64 0, .int .i64 998, .int .i64 999, .int .i64 1000] 3)) w4.heap.size 3 [0, 998, 999, 1000] := heap_alloc_new w4 _
        have l5' := hid l5
        clear l5 hbb
        go_wp2_with fail
        refine (pick_any 4 _ r5.out (by omega) (by omega) (by omega)).mono ?_
        rintro e w6 ⟨x6, rfl, hx6, hy6, r6, q6, -⟩
        have hG6 := hid (hG5.out.pick q6 hgl)
        have l6 := hid (l5'.out.grown q6 (by omega))
        obtain ⟨j, rfl⟩ := Int.eq_ofNat_of_zero_le hx6
        obtain ⟨z, hz⟩ := l6.out.cell (k := j) (by simp; omega)
        have q1 := hG6.out.cs.four.2.1
        have f1 := hG6.out.cs.frozen 1
        have hG7 := hid (hG6.out.setCk z)
        have r7 := hid ((r6.le (show P + 70 + 1 + 1 ≤ P + 90 by omega)).far (p := ⟨w2.heap.size, 1, none⟩) (by simp; omega) (.int .i64 z))
        clear q6 r6 l6 hG5 hG6 l5' hG4
        go_wp2_with fail
        go_meet
        exact ⟨_, _, _, _, _, _, _, _, rfl, hG7, hL, r7⟩
      · rcases Nat.eq_zero_or_pos Pn.length with hn0 | hn0
        · have q2 := hG4.out.cs.four.2.2.1
          have r7 := hid (r4'.out.le (show P + 70 + 1 ≤ P + 90 by omega))
          rw [hn0] at q2
          go_wp2_with fail
          go_meet
          exact ⟨_, _, _, _, _, _, _, _, rfl, hG4, hL, r7⟩
        · obtain ⟨pb, rfl, hpl, hpb, -⟩ := hG4.out.ow.op.block_ hn0
          have hpg := hG4.out.ne pb (.inl rfl)
          have qa := hG4.out.cs.four.2.2.1
          have hG4d := hid (hG4.out.below (Below.refl _ _).drew)
          have r4d := hid (show Rdr w4.drew B g (P + 70 + 1) from r4'.out)
          have hni : (0 : Int) < (Pn.length : Int) := by omega
          have hP1 := hid (show P + 70 + 1 ≤ 1000000 by omega)
          have hP2 := hid (show P + 70 + 1 + 1 ≤ 1000000 by omega)
          have hln := hid (show (1 : Int) ≤ (Pn.length : Int) ∧ (Pn.length : Int) ≤ 1000000 by have := hL.out; omega)
          go_upto_region 18 with (fail)
          go_region_held3 (fun w' => w'.cell? ⟨w2.heap.size, 2, none⟩ = some (.slice (some ⟨pb, 0, none⟩) Pn.length c1))
            (first | with_reducible exact qa | with_reducible exact qb | with_reducible exact qc | with_reducible exact qd | with_reducible exact qe | go_keep)
            (first | (go_at_call 33; (with_reducible refine (pick_any (Pn.length : Int) _ r4d.out hP1.out hln.out.1 hln.out.2).mono ?_); rintro e w5 ⟨x5, rfl, hx5, hy5, r5, q5, -⟩; have hG5 := hid (hG4d.out.pick q5 hgl); have r5' := hid r5; obtain ⟨j, rfl⟩ := Int.eq_ofNat_of_zero_le hx5; have hj : j < Pn.length := (by omega); have qb := hG5.out.cs.four.2.2.1; clear q5 r5) | (go_at_call 32; (refine (l91Stamp_any _ r5'.out (by omega)).mono ?_); rintro e w6 ⟨t6, k6, rfl, r6, q6⟩; have hG6 := hid (hG5.out.pick q6 hgl); have r6' := hid r6; have qc := hG6.out.cs.four.2.2.1; clear q6 r6; have ge := enc_get Pn j _ (get_atE hj); have ho5 := hG6.out.ow.op; have hel : j * 4 + 3 < (enc Pn).length := (by rw [enc_len]; omega); obtain ⟨xm, xt, xk, xf, hxe⟩ : ∃ m t k f, atE Pn j = (m, (t, k), f) := ⟨_, _, _, _, rfl⟩; rw [hxe] at ge; have c0 : w6.cell? ⟨pb, j * 4, none⟩ = some (.int .i64 xm) := (ho5.cellAt _ (by omega)).trans ge.1; have c1 : w6.cell? ⟨pb, j * 4 + 1, none⟩ = some (.int .i64 xt) := (ho5.cellAt _ (by omega)).trans ge.2.1; have c2 : w6.cell? ⟨pb, j * 4 + 2, none⟩ = some (.int .i64 xk) := (ho5.cellAt _ (by omega)).trans ge.2.2.1; have c3 : w6.cell? ⟨pb, j * 4 + 3, none⟩ = some (.bool xf) := (ho5.cellAt _ (by omega)).trans ge.2.2.2; have f0 : w6.frozen? ⟨pb, j * 4, none⟩ = false := ho5.frozenAt _; have f1 : w6.frozen? ⟨pb, j * 4 + 1, none⟩ = false := ho5.frozenAt _; have f2 : w6.frozen? ⟨pb, j * 4 + 2, none⟩ = false := ho5.frozenAt _; have f3 : w6.frozen? ⟨pb, j * 4 + 3, none⟩ = false := ho5.frozenAt _; obtain ⟨ys, hy, hoy⟩ := ho5.putS hj t6 k6; have hkz : Kp (fun b => b = pb) w6 ((w6.setCell ⟨pb, j * 4 + 1, none⟩ (.int .i64 t6)).setCell ⟨pb, j * 4 + 2, none⟩ (.int .i64 k6)) := ((Kp.refl (fun b => b = pb) w6).setCell (.inr rfl) _).setCell (.inr rfl) _; have hGz := hid (hG6.out.setP hkz hy hoy); have hLz := hid (show ys.length + Dn.length ≤ 13 from (by have := hL.out; omega)); have rz : Hid (Rdr ((w6.setCell ⟨pb, j * 4 + 1, none⟩ (.int .i64 t6)).setCell ⟨pb, j * 4 + 2, none⟩ (.int .i64 k6)) B g (P + 90)) := hid (((r6'.out.le (show P + 70 + 1 + 1 + 4 ≤ P + 90 by omega)).far (p := ⟨pb, j * 4 + 1, none⟩) (by simp; omega) (.int .i64 t6)).far (p := ⟨pb, j * 4 + 2, none⟩) (by simp; omega) (.int .i64 k6)); have qe := hGz.out.cs.four.2.2.1; (try rw [hy] at qe); clear ge ho5 hel hxe hy hoy hkz))
          all_goals
            go_wp2_with fail
            go_meet
            exact ⟨_, _, _, _, _, _, _, _, rfl, hGz, hLz, rz⟩
      · rcases Nat.eq_zero_or_pos Pn.length with hn0 | hn0
        · have q2 := hG4.out.cs.four.2.2.1
          have r7 := hid (r4'.out.le (show P + 70 + 1 ≤ P + 90 by omega))
          rw [hn0] at q2
          go_wp2_with fail
          go_meet
          exact ⟨_, _, _, _, _, _, _, _, rfl, hG4, hL, r7⟩
        · obtain ⟨pb, rfl, hpl, hpb, -⟩ := hG4.out.ow.op.block_ hn0
          have hpg := hG4.out.ne pb (.inl rfl)
          have qa := hG4.out.cs.four.2.2.1
          have hG4d := hid (hG4.out.below (Below.refl _ _).drew)
          have r4d := hid (show Rdr w4.drew B g (P + 70 + 1) from r4'.out)
          have hni : (0 : Int) < (Pn.length : Int) := by omega
          have hP1 := hid (show P + 70 + 1 ≤ 1000000 by omega)
          have hP2 := hid (show P + 70 + 1 + 1 ≤ 1000000 by omega)
          have hln := hid (show (1 : Int) ≤ (Pn.length : Int) ∧ (Pn.length : Int) ≤ 1000000 by have := hL.out; omega)
          go_upto_region 21 with (fail)
          go_region_held3 (fun w' => w'.cell? ⟨w2.heap.size, 2, none⟩ = some (.slice (some ⟨pb, 0, none⟩) Pn.length c1))
            (first | with_reducible exact qa | with_reducible exact qb | with_reducible exact qc | with_reducible exact qd | with_reducible exact qe | go_keep)
            (first | (go_at_call 33; (with_reducible refine (pick_any (Pn.length : Int) _ r4d.out hP1.out hln.out.1 hln.out.2).mono ?_); rintro e w5 ⟨x5, rfl, hx5, hy5, r5, q5, -⟩; have hG5 := hid (hG4d.out.pick q5 hgl); have r5' := hid r5; obtain ⟨j, rfl⟩ := Int.eq_ofNat_of_zero_le hx5; have hj : j < Pn.length := (by omega); have qb := hG5.out.cs.four.2.2.1; clear q5 r5; have ge := enc_get Pn j _ (get_atE hj); have ho5 := hG5.out.ow.op; have hel : j * 4 + 3 < (enc Pn).length := (by rw [enc_len]; omega); obtain ⟨xm, xt, xk, xf, hxe⟩ : ∃ m t k f, atE Pn j = (m, (t, k), f) := ⟨_, _, _, _, rfl⟩; rw [hxe] at ge; have c0 : w5.cell? ⟨pb, j * 4, none⟩ = some (.int .i64 xm) := (ho5.cellAt _ (by omega)).trans ge.1; have c1 : w5.cell? ⟨pb, j * 4 + 1, none⟩ = some (.int .i64 xt) := (ho5.cellAt _ (by omega)).trans ge.2.1; have c2 : w5.cell? ⟨pb, j * 4 + 2, none⟩ = some (.int .i64 xk) := (ho5.cellAt _ (by omega)).trans ge.2.2.1; have c3 : w5.cell? ⟨pb, j * 4 + 3, none⟩ = some (.bool xf) := (ho5.cellAt _ (by omega)).trans ge.2.2.2; have f0 : w5.frozen? ⟨pb, j * 4, none⟩ = false := ho5.frozenAt _; have f1 : w5.frozen? ⟨pb, j * 4 + 1, none⟩ = false := ho5.frozenAt _; have f2 : w5.frozen? ⟨pb, j * 4 + 2, none⟩ = false := ho5.frozenAt _; have f3 : w5.frozen? ⟨pb, j * 4 + 3, none⟩ = false := ho5.frozenAt _; obtain ⟨ys, hy, hoy⟩ := ho5.putF hj true; have hkz : Kp (fun b => b = pb) w5 (w5.setCell ⟨pb, j * 4 + 3, none⟩ (.bool true)) := (Kp.refl (fun b => b = pb) w5).setCell (.inr rfl) _; have hGz := hid (hG5.out.setP hkz hy hoy); have hLz := hid (show ys.length + Dn.length ≤ 13 from (by have := hL.out; omega)); have rz : Hid (Rdr (w5.setCell ⟨pb, j * 4 + 3, none⟩ (.bool true)) B g (P + 90)) := hid ((r5'.out.le (show P + 70 + 1 + 1 ≤ P + 90 by omega)).far (p := ⟨pb, j * 4 + 3, none⟩) (by simp; omega) (.bool true)); have qe := hGz.out.cs.four.2.2.1; (try rw [hy] at qe); clear ge ho5 hel hxe hy hoy hkz))
          all_goals
            go_wp2_with fail
            go_meet
            exact ⟨_, _, _, _, _, _, _, _, rfl, hGz, hLz, rz⟩
      · rcases Nat.eq_zero_or_pos Dn.length with hn0 | hn0
        · have q3 := hG4.out.cs.four.2.2.2
          have r7 := hid (r4'.out.le (show P + 70 + 1 ≤ P + 90 by omega))
          rw [hn0] at q3
          go_wp2_with fail
          go_meet
          exact ⟨_, _, _, _, _, _, _, _, rfl, hG4, hL, r7⟩
        · obtain ⟨pb, rfl, hpl, hpb, -⟩ := hG4.out.ow.od.block_ hn0
          have hpg := hG4.out.ne pb (.inr rfl)
          have qa := hG4.out.cs.four.2.2.2
          have hG4d := hid (hG4.out.below (Below.refl _ _).drew)
          have r4d := hid (show Rdr w4.drew B g (P + 70 + 1) from r4'.out)
          have hni : (0 : Int) < (Dn.length : Int) := by omega
          have hP1 := hid (show P + 70 + 1 ≤ 1000000 by omega)
          have hP2 := hid (show P + 70 + 1 + 1 ≤ 1000000 by omega)
          have hln := hid (show (1 : Int) ≤ (Dn.length : Int) ∧ (Dn.length : Int) ≤ 1000000 by have := hL.out; omega)
          go_upto_region 24 with (fail)
          go_region_held3 (fun w' => w'.cell? ⟨w2.heap.size, 3, none⟩ = some (.slice (some ⟨pb, 0, none⟩) Dn.length c2))
            (first | with_reducible exact qa | with_reducible exact qb | with_reducible exact qc | with_reducible exact qd | with_reducible exact qe | go_keep)
            (first | (go_at_call 33; (with_reducible refine (pick_any (Dn.length : Int) _ r4d.out hP1.out hln.out.1 hln.out.2).mono ?_); rintro e w5 ⟨x5, rfl, hx5, hy5, r5, q5, -⟩; have hG5 := hid (hG4d.out.pick q5 hgl); have r5' := hid r5; obtain ⟨j, rfl⟩ := Int.eq_ofNat_of_zero_le hx5; have hj : j < Dn.length := (by omega); have qb := hG5.out.cs.four.2.2.2; clear q5 r5) | (go_at_call 33; (with_reducible refine (pick_any 8 _ r5'.out hP2.out (by decide) (by decide)).mono ?_); rintro e w6 ⟨x6, rfl, hx6, hy6, r6, q6, -⟩; have hG6 := hid (hG5.out.pick q6 hgl); have r6' := hid r6; have qc := hG6.out.cs.four.2.2.2; clear q6 r6; have ge := enc_get Dn j _ (get_atE hj); have ho5 := hG6.out.ow.od; have hel : j * 4 + 3 < (enc Dn).length := (by rw [enc_len]; omega); obtain ⟨xm, xt, xk, xf, hxe⟩ : ∃ m t k f, atE Dn j = (m, (t, k), f) := ⟨_, _, _, _, rfl⟩; rw [hxe] at ge; have c0 : w6.cell? ⟨pb, j * 4, none⟩ = some (.int .i64 xm) := (ho5.cellAt _ (by omega)).trans ge.1; have c1 : w6.cell? ⟨pb, j * 4 + 1, none⟩ = some (.int .i64 xt) := (ho5.cellAt _ (by omega)).trans ge.2.1; have c2 : w6.cell? ⟨pb, j * 4 + 2, none⟩ = some (.int .i64 xk) := (ho5.cellAt _ (by omega)).trans ge.2.2.1; have c3 : w6.cell? ⟨pb, j * 4 + 3, none⟩ = some (.bool xf) := (ho5.cellAt _ (by omega)).trans ge.2.2.2; have f0 : w6.frozen? ⟨pb, j * 4, none⟩ = false := ho5.frozenAt _; have f1 : w6.frozen? ⟨pb, j * 4 + 1, none⟩ = false := ho5.frozenAt _; have f2 : w6.frozen? ⟨pb, j * 4 + 2, none⟩ = false := ho5.frozenAt _; have f3 : w6.frozen? ⟨pb, j * 4 + 3, none⟩ = false := ho5.frozenAt _; obtain ⟨ys, hy, hoy⟩ := ho5.putM hj x6; have hkz : Kp (fun b => b = pb) w6 (w6.setCell ⟨pb, j * 4, none⟩ (.int .i64 x6)) := (Kp.refl (fun b => b = pb) w6).setCell (.inr rfl) _; have hGz := hid (hG6.out.setD hkz hy hoy); have hLz := hid (show Pn.length + ys.length ≤ 13 from (by have := hL.out; omega)); have rz : Hid (Rdr (w6.setCell ⟨pb, j * 4, none⟩ (.int .i64 x6)) B g (P + 90)) := hid ((r6'.out.le (show P + 70 + 1 + 1 + 1 ≤ P + 90 by omega)).far (p := ⟨pb, j * 4, none⟩) (by simp; omega) (.int .i64 x6)); have qe := hGz.out.cs.four.2.2.2; (try rw [hy] at qe); clear ge ho5 hel hxe hy hoy hkz))
          all_goals
            go_wp2_with fail
            go_meet
            exact ⟨_, _, _, _, _, _, _, _, rfl, hGz, hLz, rz⟩
      · -- another number
        go_wp2_with fail
        refine (pick_any 7 _ r4'.out (by omega) (by omega) (by omega)).mono ?_
        rintro e w6 ⟨x6, rfl, hx6, hy6, r6, q6, -⟩
        have hG6 := hid (hG4.out.pick q6 hgl)
        have q0 := hG6.out.cs.four.1
        have f0 := hG6.out.cs.frozen 0
        have hG7 := hid (hG6.out.setId (x6 - 1))
        have r7 := hid ((r6.le (show P + 70 + 1 + 1 ≤ P + 90 by omega)).far (p := ⟨w2.heap.size, 0, none⟩) (by simp; omega) (.int .i64 (x6 - 1)))
        clear q6 r6 hG6 hG4
        go_wp2_with fail
        go_meet
        exact ⟨_, _, _, _, _, _, _, _, rfl, hG7, hL, r7⟩
      · have e0 : (x4 == 0) = false := by simp; omega
        have e1 : (x4 == 1) = false := by simp; omega
        have e2 : (x4 == 2) = false := by simp; omega
        have e3 : (x4 == 3) = false := by simp; omega
        have e4 : (x4 == 4) = false := by simp; omega
        have r7 := hid (r4'.out.le (show P + 70 + 1 ≤ P + 90 by omega))
        go_wp2_with fail
        go_meet
        exact ⟨_, _, _, _, _, _, _, _, rfl, hG4, hL, r7⟩
    case rest =>
      obtain ⟨id, ck, A1, c1, A2, c2, Pn, Dn, rfl, hG, hL, hR⟩ := hcut
      obtain ⟨W9, rfl⟩ : ∃ W, W = wc := ⟨_, rfl⟩
      clear hG4 r4'
      obtain ⟨q0, q1, q2, q3⟩ := hG.out.cs.four
      obtain ⟨s0, s1, s2, s3⟩ := hG.out.rs.four
      obtain ⟨f0, f1, f2, f3⟩ := hG.out.rs.free4
      have hfk := hid ((Kp.refl (fun b => b = w.heap.size) W9).set4 (b := w.heap.size) rfl (.int .i64 id) (.int .i64 ck) (.slice A1 Pn.length c1) (.slice A2 Dn.length c2))
      have hend : Hid (GrpPost B g P w (.returned (gpV id ck (.slice A1 Pn.length c1) (.slice A2 Dn.length c2))) ((((W9.setCell ⟨w.heap.size, 0, none⟩ (.int .i64 id)).setCell ⟨w.heap.size, 1, none⟩ (.int .i64 ck)).setCell ⟨w.heap.size, 2, none⟩ (.slice A1 Pn.length c1)).setCell ⟨w.heap.size, 3, none⟩ (.slice A2 Dn.length c2))) := hid
        ⟨id, ck, A1, c1, A2, c2, Pn, Dn, rfl, (hG.out.ow.kp hfk.out (fun b hb h => by omega)).more (by omega), hL.out, (((hR.out.far hgl _).far hgl _).far hgl _).far hgl _, grown_far (grown_far (grown_far (grown_far hG.out.gr (Nat.le_refl _) _) (Nat.le_refl _) _) (Nat.le_refl _) _) (Nat.le_refl _) _⟩
      clear hG hL hR hfk
      go_wp2_with (exact bodyPost_ret (v := gpV id ck (.slice A1 Pn.length c1) (.slice A2 Dn.length c2)) (by simp [results, Try.results21, go_sem, s0, s1, s2, s3]) rfl hend.out)
end Go.Proofs.Ytbnmeedmeikepaa
