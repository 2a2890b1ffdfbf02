/-
  Appending to an owned slice of entries, whatever is appended; the heap's methods Pop and Push. No condition but lengths below 2^40.
-/
import Derived.Test.YtbnmeedmeikepaaGmL
import Derived.Maps.AppendAt
import Derived.Deep.RegionLaw
namespace Go.Proofs.Ytbnmeedmeikepaa
open Go.RowKit
set_option linter.unusedVariables false

theorem und_en : Try.prog.underlying 23 = some (.slice 34) := Try.underlying23

theorem und_ph : Try.prog.underlying 56 = some (.slice 34) := Try.underlying56

theorem run_app_nil {w : World} {T ty : TypeId} (hT : Try.prog.underlying T = some (.slice 34)) {B : Nat} {v : Value} {zs : List En} (hown : OwE w B v zs) (c : Nat) :
    (Builtin.append_ #[T, T] ty #[v, .slice none 0 c]).run Try.prog w = .ok v w := by
  obtain ⟨i0, hi, hz0, hz1, hz2⟩ := info_parts info_en
  rcases hown.2 with ⟨rfl, h0⟩ | ⟨g, cap, cur, rfl, _, _, hnc, _⟩
  · simp [Builtin.append_, run_underlying hT, sizeOf, typeInfo, hi, Builtin.lenOf, Builtin.firstCells]
  · simp [Builtin.append_, run_underlying hT, sizeOf, typeInfo, hi, Builtin.lenOf, Builtin.firstCells, hnc, storeCells]

theorem run_appE {w : World} {T ty : TypeId} (hT : Try.prog.underlying T = some (.slice 34)) {B Br : Nat} {v : Value} {zs ys : List En} {A : Option Addr} {m c : Nat} (hown : OwE w B v zs) (hr : RdE w Br A m ys) (hB : B ≤ w.heap.size) (hn : zs.length + m < 1099511627776) :
    ∃ v' w', (Builtin.append_ #[T, T] ty #[v, .slice A m c]).run Try.prog w = .ok v' w' ∧ OwE w' B v' (zs ++ ys) ∧ w.grownBy w' v.ownBlock ∧ (v'.ownBlock = v.ownBlock ∨ v'.ownBlock = some w.heap.size) := by
  rcases A with _ | ad
  · have hm : m = 0 := by
      rcases Nat.eq_zero_or_pos m with h0 | h0
      · exact h0
      · obtain ⟨b, off, h, _⟩ := hr.2 h0
        cases h
    subst hm
    have hy : ys = [] := List.eq_nil_of_length_eq_zero hr.len
    subst hy
    exact ⟨v, w, run_app_nil hT hown c, by rw [List.append_nil]; exact hown, World.grownBy.refl w _, .inl rfl⟩
  · obtain ⟨i0, hi, hz0, hz1, hz2⟩ := info_parts info_en
    have hl : (enc ys).length = m * 4 := by rw [enc_len, hr.len]
    have hc : ∀ j u, (enc ys)[j]? = some u → w.cell? (ad.add j) = some u := by
      intro j u hu
      have hj : j < m * 4 := by rw [← hl]; exact (List.getElem?_eq_some_iff.1 hu).1
      obtain ⟨ad', e, _, hcc⟩ := hr.cells.2 (by omega)
      injection e with e
      subst e
      exact hcc j u hu
    obtain ⟨v', w', h1, h2, h3, _, h5⟩ := run_append_own_at (P := Try.prog) w B T ty 34 i0 (.agg #[.int .i64 0, .int .i64 0, .int .i64 0, .bool false]) 4 32 hT hi hz0 hz1 hz2 rfl (by decide) v zs.length (enc zs) hown ad m c (enc ys) hl hc (enc_one ys) (by unfold maxLen; omega) (by omega) hB
    refine ⟨v', w', h1, ?_, h3, h5⟩
    show w'.ownsRow B 34 4 v' (zs ++ ys).length (enc (zs ++ ys))
    rw [enc_app, List.length_append, hr.len]
    exact h2
section
variable {w : World} {T : TypeId} {ops : Array Oper} {o : Oper} {a : Act} {K : Act → World → Prop} {Q : Exit → Act → World → Prop}

theorem wp_appE (hT : Try.prog.underlying T = some (.slice 34)) (s x : Operand)
    (ho : o.op = .call { callee := .builtin .append, args := #[s, x], argTypes := #[T, T] }) {B Br : Nat} {v : Value} {zs ys : List En} {A : Option Addr} {m c : Nat} (hs : a.eval s = v) (hx : a.eval x = .slice A m c) (hown : OwE w B v zs) (hr : RdE w Br A m ys) (hB : B ≤ w.heap.size) (hn : zs.length + m < 1099511627776)
    (h : ∀ v' w', OwE w' B v' (zs ++ ys) → w.grownBy w' v.ownBlock → (v'.ownBlock = v.ownBlock ∨ v'.ownBlock = some w.heap.size) → K (a.put o.dst v') w') : o.wp Try.prog a w K Q := by
  obtain ⟨v', w', h1, h2, h3, h4⟩ := run_appE (ty := o.type) (c := c) hT hown hr hB hn
  unfold Oper.wp execOp
  simp only [ho, resolve, invoke, builtin, Sem.run_bind, Sem.run_pure, Result.andThen_ok, List.map_toArray, List.map_cons, List.map_nil, hs, hx, h1]
  exact h v' w' h2 h3 h4

theorem wpList_appE2 {rest : List Oper} (hgd : o.guard = none) (hT : Try.prog.underlying T = some (.slice 34)) (s x : Operand)
    (ho : o.op = .call { callee := .builtin .append, args := #[s, x], argTypes := #[T, T] }) {B Br : Nat} {v : Value} {zs ys : List En} {A : Option Addr} {m c : Nat} (hs : a.eval s = v) (hx : a.eval x = .slice A m c) (hown : OwE w B v zs) (hr : RdE w Br A m ys) (hB : B ≤ w.heap.size) (hn : zs.length + m < 1099511627776)
    (h : ∀ v' w', OwE w' B v' (zs ++ ys) → w.grownBy w' v.ownBlock → (v'.ownBlock = v.ownBlock ∨ v'.ownBlock = some w.heap.size) → wpList Try.prog ops Q rest (a.put o.dst v') w') : wpList Try.prog ops Q (o :: rest) a w :=
  wpList_plain hgd fun _ hK => wp_appE hT s x ho hs hx hown hr hB hn fun v' w' h1 h2 h3 => hK _ _ (h v' w' h1 h2 h3)

theorem step_appE {E : Prop} (hgd : o.guard = none) (hT : Try.prog.underlying T = some (.slice 34)) (s x : Operand)
    (ho : o.op = .call { callee := .builtin .append, args := #[s, x], argTypes := #[T, T] }) {B Br : Nat} {v : Value} {zs ys : List En} {A : Option Addr} {m c : Nat} (hs : a.eval s = v) (hx : a.eval x = .slice A m c) (hown : OwE w B v zs) (hr : RdE w Br A m ys) (hB : B ≤ w.heap.size) (hn : zs.length + m < 1099511627776)
    (h : ∀ v' w', OwE w' B v' (zs ++ ys) → w.grownBy w' v.ownBlock → (v'.ownBlock = v.ownBlock ∨ v'.ownBlock = some w.heap.size) → K (a.put o.dst v') w') :
    if Region.wanted o (yielded ops a.tmps) = true then Oper.wp Try.prog o a w K Q else E := by
  have hw : Region.wanted o (yielded ops a.tmps) = true := by simp [Region.wanted, hgd]
  rw [if_pos hw]
  exact wp_appE hT s x ho hs hx hown hr hB hn h
end
/-- a literal of one entry -/
theorem RdE.lit1 (w : World) (m t k : Int) (f : Bool) : RdE (w.alloc (.cells #[.int .i64 m, .int .i64 t, .int .i64 k, .bool f] 34)) (w.heap.size + 1) (some ⟨w.heap.size, 0, none⟩) 1 [(m, (t, k), f)] :=
  ⟨rfl, fun _ => ⟨w.heap.size, 0, rfl, Nat.lt_succ_self _, fun j x hx => by
    match j, hx with
    | 0, hx =>
      simp at hx
      subst hx
      have h := Cs.new w 34 #[.int .i64 m, .int .i64 t, .int .i64 k, .bool f]
      exact ⟨h.cell 0, h.cell 1, h.cell 2, h.cell 3⟩⟩⟩

theorem run_assertE (m t k : Int) (f : Bool) (W : World) : (Instr.typeAssert (.iface 34 (enV m t k f)) 20 34 false).run Try.prog W = .ok (enV m t k f) W := by kernel_rfl

/-! ### the methods -/
def PopPost (lo hb g n c : Nat) (zs : List En) (w : World) (e : Ending) (w' : World) : Prop :=
  (∃ (m t k : Int) (f : Bool), atE zs n = (m, (t, k), f) ∧ e = .returned (.iface 34 (enV m t k f))) ∧ HMs w' lo hb g n c (zs.take n) ∧ Kp (fun k => k = hb) w w'

set_option maxHeartbeats 2000000 in
theorem PopM_any {lo hb g n c : Nat} {zs : List En} (w : World) (H : HMs w lo hb g (n + 1) c zs) (hN : n + 1 < 1099511627776) :
    Calls Try.prog 78 #[.pointer (some ⟨hb, 0, none⟩)] w (PopPost lo hb g n c zs w) := by
  obtain ⟨b, off, m, t, k, f, e, hx, hb', c0, c1, c2, c3⟩ := H.rd.at_ (show n < n + 1 by omega)
  injection e with e
  injection e with e1 e2
  subst e1; subst e2
  simp only [Nat.zero_add] at c0 c1 c2 c3
  have hc := H.1.cell
  have hf := H.1.frozen
  have hbl := H.1.lt
  have hat := hid (atE_get hx.out)
  have hcap : n ≤ c := by
    obtain ⟨A, c', e, _, h1, _⟩ := H.2.1.form
    injection e with _ e2 e3
    rw [← e2, ← e3] at h1; omega
  have hne : g ≠ hb := H.2.2.2
  have hfin : Hid (HMs ((w.setCell ⟨hb, 0, none⟩ (.slice (some ⟨g, 0, none⟩) n c)).alloc (.cells #[.int .i64 m, .int .i64 t, .int .i64 k, .bool f] 34)) lo hb g n c (zs.take n)) := hid (by
    have hl : zs.length = n + 1 := H.2.2.1
    refine HMs.below ⟨H.1.set _, ?_, by rw [List.length_take, hl]; omega, hne⟩ (below1 _ _)
    have h2 : OwE w lo (.slice (some ⟨g, 0, none⟩) n c) (zs.take n) := by
      have h3 := H.2.1
      rw [← hl] at h3
      exact h3.cut (by omega)
    exact h2.of_block fun b hb0 => Below.heap_setCell _ _ _ _ (by
      injection hb0 with hb0
      subst hb0
      exact hne))
  have hkp : Hid (Kp (fun k => k = hb) w ((w.setCell ⟨hb, 0, none⟩ (.slice (some ⟨g, 0, none⟩) n c)).alloc (.cells #[.int .i64 m, .int .i64 t, .int .i64 k, .bool f] 34))) := hid ((Kp.setCell (S := fun k => k = hb) (Kp.refl _ w) (.inr rfl) _).alloc _)
  clear H hx
  go_enter Try.func78, Try.ntmps78
  go_wp2
  go_ret
  exact ⟨⟨m, t, k, f, hat.out, rfl⟩, hfin.out, hkp.out⟩

def PushPost (lo hb n : Nat) (v : Value) (zs : List En) (x : En) (w : World) (e : Ending) (w' : World) : Prop :=
  e = .returned (.tuple #[]) ∧ ∃ (g c : Nat), HMs w' lo hb g (n + 1) c (zs ++ [x]) ∧ (v.ownBlock = some g ∨ w.heap.size ≤ g) ∧ Kp (HS hb v) w w'

set_option maxHeartbeats 4000000 in
theorem PushM_any {lo hb n c : Nat} {A : Option Addr} {zs : List En} (m t k : Int) (f : Bool) (w : World) (H : HM w lo hb (.slice A n c) zs) (hl : zs.length = n) (hlo : lo ≤ w.heap.size) (hN : n < 1099511627776 - 1) :
    Calls Try.prog 79 #[.pointer (some ⟨hb, 0, none⟩), .iface 34 (enV m t k f)] w (PushPost lo hb n (.slice A n c) zs (m, (t, k), f) w) := by
  have hc := H.1.cell
  have hf := H.1.frozen
  have hbl := H.1.lt
  have H' := hid H
  have hl' := hid hl
  have hta := run_assertE m t k f
  have hln : Hid ((zs ++ [(m, (t, k), f)]).length = n + 1) := hid (by rw [List.length_append, hl]; rfl)
  clear H hl
  go_enter Try.func79, Try.ntmps79
  go_wp2_with fail
  go_region_law ((refine step_appE rfl und_ph (.tmp 7) (.tmp 10) rfl (B := lo) (Br := w.heap.size + 1) (v := .slice A n c) (ys := [(m, (t, k), f)]) (zs := zs) rfl rfl ((H'.out.2.1.alloc _).drew) (RdE.lit1 w m t k f).drew (by simp; omega) (by rw [hl'.out]; omega) ?_; intro v' w' ho hg hv; obtain ⟨A', c', rfl, hrd, _⟩ := ho.form; obtain ⟨g', rfl, hgl, hgB, _⟩ := ho.block_ (by simp); rw [hln.out] at ho hv ⊢; have hbx : Hid (Bx w' hb 56 (.slice A n c)) := hid ((hg.block hb (Nat.lt_of_lt_of_le hbl (below1 w _).size) (fun e => H'.out.2.2 e.symm)).trans ((H'.out.1.below (below1 w (.cells #[.int .i64 m, .int .i64 t, .int .i64 k, .bool f] 34))).drew)); have hc' := hbx.out.cell; have hf' := hbx.out.frozen; have ho' := hid ho; have hg' := hid hg; have hv' := hid hv; clear ho hg hv hrd))
  all_goals
    have hgne : g' ≠ hb := by
      rcases hv'.out with h | h
      · intro e
        exact H'.out.2.2 (by rw [← h, ← e]; rfl)
      · have h2 : g' = w.heap.size + 1 := by
          have : some g' = some ((w.alloc (.cells #[.int .i64 m, .int .i64 t, .int .i64 k, .bool f] 34)).drew.heap.size) := h
          injection this with this
          rw [this]; exact World.size_alloc _ _
        omega
    have hfin : Hid (HMs (w'.setCell ⟨hb, 0, none⟩ (.slice (some ⟨g', 0, none⟩) (n + 1) c')) lo hb g' (n + 1) c' (zs ++ [(m, (t, k), f)])) := hid (by
      have h1 := ho'.out
      have h2 := hbx.out.set (.slice (some ⟨g', 0, none⟩) (n + 1) c')
      refine ⟨h2, h1.of_block fun b hb0 => Below.heap_setCell _ _ _ _ (by
        injection hb0 with hb0
        subst hb0
        exact hgne), hln.out, hgne⟩)
    have hkp : Hid (Kp (HS hb (.slice A n c)) w (w'.setCell ⟨hb, 0, none⟩ (.slice (some ⟨g', 0, none⟩) (n + 1) c'))) := hid
      (Kp.setCell ((((Kp.refl _ w).alloc (.cells #[.int .i64 m, .int .i64 t, .int .i64 k, .bool f] 34)).drew).grown hg'.out (fun b hb0 => .inr (.inr hb0))) (.inr (.inl rfl)) _)
    go_end0
    exact ⟨rfl, g', c', hfin.out, (by
      rcases hv'.out with h | h
      · exact .inl h.symm
      · have h2 : g' = w.heap.size + 1 := by
          have : some g' = some ((w.alloc (.cells #[.int .i64 m, .int .i64 t, .int .i64 k, .bool f] 34)).drew.heap.size) := h
          injection this with this
          rw [this]; exact World.size_alloc _ _
        exact .inr (by omega)), hkp.out⟩
end Go.Proofs.Ytbnmeedmeikepaa
