/-
  What the exact laws of the store do with puts and transactions: sizes, copies, comparisons, marks. No condition but lengths below 2^40.
-/
import Derived.Test.YthnkilacknoklaaSoN
import Derived.Laws.MakeOwn
namespace Go.Proofs.Ythnkilacknoklaa
open Go.RowKit
set_option linter.unusedVariables false
set_option linter.unusedSimpArgs false

abbrev two (a b : Int) : Value := .agg #[.int .i64 a, .int .i64 b]

theorem RdP.below {w w' : World} {A : Option Addr} {n : Nat} {zs : List (Int × Int)} (h : RdP w A n zs) (hb : Below w.heap.size w w') : RdP w' A n zs := h.step hb

theorem sameB_self (zs : List Int) : sameB zs zs = true := by simp [sameB]

theorem info_put : (Try.prog.info? 68).map (fun i => (i.zero, i.size, i.bytes)) = some (some (.agg #[.int .i64 0, .int .i64 0]), 2, 16) := by kernel_rfl

/-- v is a slice of stamps of the call's own -/
abbrev OwP (w : World) (B : Nat) (v : Value) (zs : List (Int × Int)) : Prop := w.ownsRow B 68 2 v zs.length (ptc zs)
section
variable {w w' : World} {B B' : Nat} {v : Value} {zs : List (Int × Int)}

theorem OwP.form (h : OwP w B v zs) : ∃ A c, v = .slice A zs.length c ∧ RdP w A zs.length zs ∧ zs.length ≤ c ∧ c ≤ 9223372036854775807 := by
  rcases h.2 with ⟨rfl, h0⟩ | ⟨g, cap, cur, rfl, hb, hh, hn, hm, hs, ht⟩
  · have hz : zs = [] := List.eq_nil_of_length_eq_zero h0
    subst hz
    exact ⟨none, 0, rfl, ⟨rfl, fun h => absurd h (by simp)⟩, Nat.le_refl _, by omega⟩
  · refine ⟨_, cap, rfl, ⟨rfl, fun _ => ⟨g, 0, rfl, (h.lt g rfl).2, fun j x hx => ?_⟩⟩, hn, by unfold maxLen at hm; omega⟩
    have hx2 := ptc_get zs j x hx
    have e0 := h.cells (g := g) rfl (j * 2) _ hx2.1
    have e1 := h.cells (g := g) rfl (j * 2 + 1) _ hx2.2
    have a0 : ∀ k, (⟨g, 0, none⟩ : Addr).add k = ⟨g, 0 + k, none⟩ := fun k => by
      unfold Addr.add; by_cases hk : k = 0
      · subst hk; rfl
      · simp [hk]
    rw [a0] at e0 e1
    exact ⟨e0, by rw [Nat.add_assoc]; exact e1⟩

theorem OwP.of_block (h : OwP w B v zs) (hb : ∀ g, v.ownBlock = some g → w'.heap[g]? = w.heap[g]?) : OwP w' B v zs := by
  refine ⟨h.1, ?_⟩
  rcases h.2 with hn | ⟨g, cap, cur, e, hl, hg, hr⟩
  · exact .inl hn
  · exact .inr ⟨g, cap, cur, e, hl, (hb g (by rw [e]; rfl)).trans hg, hr⟩

theorem OwP.below (h : OwP w B v zs) (hb : Below w.heap.size w w') : OwP w' B v zs := h.of_block fun g hg => hb.block g (h.lt g hg).2

theorem OwP.pick {g : Nat} (h : OwP w B v zs) (hg : w.grownBy w' (some g)) (hl : g < B) : OwP w' B v zs :=
  h.of_block fun k hk => hg.block k (h.lt k hk).2 (fun e => by
    have e' : k = g := by injection e
    have := (h.lt k hk).1
    omega)

theorem OwP.more (h : OwP w B v zs) (hB : B' ≤ B) : OwP w B' v zs := by
  refine ⟨h.1, ?_⟩
  rcases h.2 with hn | ⟨g, cap, cur, e, hb, hr⟩
  · exact .inl hn
  · exact .inr ⟨g, cap, cur, e, Nat.le_trans hB hb, hr⟩

theorem OwP.empty_lit (w : World) (hB : B ≤ w.heap.size) : OwP (w.alloc (.cells #[] 68)) B (.slice (some ⟨w.heap.size, 0, none⟩) 0 0) [] :=
  World.ownsRow_lit w #[] 0 hB (by decide) rfl
end

/-- One append of one stamp: 'out = append(out, x)'. The literal's block lies already. -/
theorem wpList_appPut {w : World} {ops : Array Oper} {rest : List Oper} {o : Oper} {a : Act} {Q : Exit → Act → World → Prop} (hgd : o.guard = none) (s x : Operand)
    (ho : o.op = .call { callee := .builtin .append, args := #[s, x], argTypes := #[31, 31] })
    (B : Nat) (t k : Int) (v : Value) (zs : List (Int × Int)) (hs : a.eval s = v) (hx : a.eval x = .slice (some ⟨w.heap.size, 0, none⟩) 1 1) (hown : OwP w B v zs) (hB : B ≤ w.heap.size) (hn : zs.length < 1099511627776)
    (h : ∀ v' w', OwP w' B v' (zs ++ [(t, k)]) → Below B w w' → wpList Try.prog ops Q rest (a.put o.dst v') w') :
    wpList Try.prog ops Q (o :: rest) a (w.alloc (.cells #[.int .i64 t, .int .i64 k] 68)) := by
  obtain ⟨i0, hi, hz0, hz1, hz2⟩ := info_parts info_put
  refine wpList_append_own (P := Try.prog) _ hgd s x 31 ho B 68 i0 (.agg #[.int .i64 0, .int .i64 0]) 2 16 Try.underlying31 hi hz0 hz1 hz2 rfl (by decide) v zs.length (ptc zs) hs (hown.alloc _) ⟨w.heap.size, 0, none⟩ 1 1 [.int .i64 t, .int .i64 k] hx rfl ?_ ?_ ?_ ?_ ?_ ?_
  · intro j u hj
    match j, hj with
    | 0, hj => simp at hj; subst hj; simp [Addr.add]
    | 1, hj => simp at hj; subst hj; simp [Addr.add]
  · intro u hu; simp at hu; rcases hu with rfl | rfl <;> rfl
  · unfold maxLen; omega
  · omega
  · simp; omega
  · intro v' w' hown' hg _
    refine h v' w' ?_ ?_
    · show w'.ownsRow B 68 2 v' (zs ++ [(t, k)]).length (ptc (zs ++ [(t, k)]))
      rw [ptc_app, List.length_append]
      exact hown'
    · exact ((Below.refl B w).alloc hB _).grown hg (by simp; omega) (fun k hk => (hown.lt k hk).1)


/-- a slice of stamps that came in: '.slice A n c' reads as zs -/
def RdPA (w : World) (A : Option Addr) (n : Nat) (zs : List (Int × Int)) : Prop :=
  zs.length = n ∧ (0 < n → ∃ ad, A = some ad ∧ ad.block < w.heap.size ∧ ∀ j x, zs[j]? = some x → w.cell? (ad.add (j * 2)) = some (.int .i64 x.1) ∧ w.cell? (ad.add (j * 2 + 1)) = some (.int .i64 x.2))

theorem RdPA.below {w w' : World} {A : Option Addr} {n : Nat} {zs : List (Int × Int)} (h : RdPA w A n zs) (hb : Below w.heap.size w w') : RdPA w' A n zs :=
  ⟨h.1, fun hn => by
    obtain ⟨ad, e, hl, hc⟩ := h.2 hn
    refine ⟨ad, e, Nat.lt_of_lt_of_le hl hb.size, fun j x hx => ⟨(hb.cell (by rw [block_of_add]; exact hl)).trans (hc j x hx).1, (hb.cell (by rw [block_of_add]; exact hl)).trans (hc j x hx).2⟩⟩⟩

theorem RdPA.at_ {w : World} {A : Option Addr} {n k : Nat} {zs : List (Int × Int)} (h : RdPA w A n zs) (hk : k < n) :
    ∃ ad t g, A = some ad ∧ Hid (zs[k]? = some (t, g)) ∧ w.cell? (ad.add (k * 2)) = some (.int .i64 t) ∧ w.cell? (ad.add (k * 2 + 1)) = some (.int .i64 g) ∧ w.cell? ⟨(ad.add (k * 2)).block, (ad.add (k * 2)).off + 1, none⟩ = some (.int .i64 g) := by
  obtain ⟨ad, e, hl, hc⟩ := h.2 (by omega)
  have hlen : k < zs.length := by rw [h.1]; exact hk
  have hx : zs[k]? = some zs[k] := List.getElem?_eq_getElem hlen
  exact ⟨ad, zs[k].1, zs[k].2, e, hx, (hc k _ hx).1, (hc k _ hx).2, by
    have e : (ad.add (k * 2)).add 1 = ⟨(ad.add (k * 2)).block, (ad.add (k * 2)).off + 1, none⟩ := rfl
    rw [← e, add_of_add]; exact (hc k _ hx).2⟩

theorem RdPA.of_pairs {w : World} {x : Addr} {n : Nat} (h : ∀ i, i < n → ∃ t g : Int, w.cell? (x.add (i * 2)) = some (.int .i64 t) ∧ w.cell? (x.add (i * 2 + 1)) = some (.int .i64 g)) : ∃ zs, RdPA w (some x) n zs := by
  refine ⟨(List.range n).map fun i => (intOf ((w.cell? (x.add (i * 2))).getD undef), intOf ((w.cell? (x.add (i * 2 + 1))).getD undef)), by simp, fun hn => ⟨x, rfl, ?_, fun j y hy => ?_⟩⟩
  · obtain ⟨t, g, e0, _⟩ := h 0 hn
    have := World.block_lt_of_cell? w _ e0
    rwa [block_of_add] at this
  · have hj : j < n := by
      have := (List.getElem?_eq_some_iff.1 hy).1
      simpa using this
    obtain ⟨t, g, e0, e1⟩ := h j hj
    rw [List.getElem?_map, List.getElem?_range hj] at hy
    simp only [Option.map_some, e0, e1, Option.getD_some, Option.some.injEq] at hy
    subst hy
    exact ⟨e0, e1⟩

theorem toList_madeCells_two (z : Value) (m : Nat) : (madeCells #[z, z] m).toList = List.replicate m z := by
  apply List.ext_getElem (by simp [madeCells])
  intro i h1 h2
  have : i % 2 = 0 ∨ i % 2 = 1 := by omega
  rcases this with h | h <;> simp [madeCells, h]

theorem ptc_zeros (n : Nat) : ptc (List.replicate n (0, 0)) = List.replicate (n * 2) (.int .i64 0) := by
  induction n with
  | zero => rfl
  | succ n ih =>
    rw [show (n + 1) * 2 = n * 2 + 1 + 1 by omega]
    simp [List.replicate_succ, ptc, ih]

theorem ptc_set : ∀ (l : List (Int × Int)) (k : Nat) (x : Int × Int), k < l.length → ptc (l.set k x) = ((ptc l).set (k * 2) (.int .i64 x.1)).set (k * 2 + 1) (.int .i64 x.2)
  | [], k, x, h => by simp at h
  | y :: l, 0, x, h => rfl
  | y :: l, k + 1, x, h => by
    have ih := ptc_set l k x (by simpa using h)
    rw [show (k + 1) * 2 = k * 2 + 1 + 1 by omega]
    simp [ptc, ih]

theorem OwP.set {w : World} {B g n c : Nat} {zs : List (Int × Int)} (h : OwP w B (.slice (some ⟨g, 0, none⟩) n c) zs) (hn : zs.length = n) (k : Nat) (hk : k < n) (x : Int × Int) :
    OwP ((w.setCell ⟨g, k * 2, none⟩ (.int .i64 x.1)).setCell ⟨g, k * 2 + 1, none⟩ (.int .i64 x.2)) B (.slice (some ⟨g, 0, none⟩) n c) (zs.set k x) := by
  subst hn
  have h1 := (h.stored (k * 2) (.int .i64 x.1)).1
  have h2 := (h1.stored (k * 2 + 1) (.int .i64 x.2)).1
  show World.ownsRow _ B 68 2 _ (zs.set k x).length (ptc (zs.set k x))
  rw [ptc_set zs k x hk, List.length_set]
  exact h2


set_option maxHeartbeats 400000 in
theorem toPut_any (a b : Int) (w : World) :
    Calls Try.prog 73 #[two a b] w fun e w' => e = .returned (two a b) ∧ Below w.heap.size w w' := by
  have B := hid (below3 w (.cells #[.int .i64 a, .int .i64 b] 92) (.cells #[.int .i64 a, .int .i64 b] 68) (.cells #[.int .i64 a, .int .i64 b] 68))
  go_enter Try.func73, Try.ntmps73
  go_wp2
  exact bodyPost_ret (v := two a b) (by simp [results, Try.results73, go_sem]) rfl ⟨rfl, B.out⟩


set_option maxHeartbeats 400000 in
theorem eqPut_same (a b : Int) (w : World) :
    Calls Try.prog 75 #[two a b, two a b] w fun e w' => e = .returned (.bool true) ∧ Below w.heap.size w w' := by
  have B := hid (below2 w (.cells #[.int .i64 a, .int .i64 b] 68) (.cells #[.int .i64 a, .int .i64 b] 68))
  go_enter Try.func75, Try.ntmps75
  go_wp2
  go_ret
  exact ⟨rfl, B.out⟩


set_option maxHeartbeats 2000000 in
theorem toPutS_any {n c : Nat} {A : Option Addr} {zs : List (Int × Int)} (w : World) (h : RdPA w A n zs) (hn : n < 1099511627776) :
    Calls Try.prog 50 #[.slice A n c] w fun e w' => ∃ v, e = .returned v ∧ OwP w' w.heap.size v zs ∧ Below w.heap.size w w' := by
  obtain ⟨i0, hi, hz0, hz1, hz2⟩ := info_parts info_put
  have hlen := hid h.1
  have h' := hid h
  clear h
  go_enter Try.func50, Try.ntmps50
  go_wp2_with (refine wpList_make_full (P := Try.prog) _ rfl _ _ 31 rfl w.heap.size 68 i0 (.agg #[.int .i64 0, .int .i64 0]) 2 Try.underlying31 hi hz0 hz1 .i64 .i64 _ _ n rfl rfl rfl rfl (by rw [hz2]; omega) (by unfold maxLen; omega) (Nat.le_refl _) ?_; intro w1 hown hgr)
  have hb1 := hid ((Below.refl w.heap.size w).grown hgr (Nat.le_refl _) (fun k h => by cases h))
  have ho1 : OwP w1 w.heap.size (.slice (some ⟨w.heap.size, 0, none⟩) n n) (List.replicate n (0, 0)) := by
    show w1.ownsRow w.heap.size 68 2 _ (List.replicate n ((0, 0) : Int × Int)).length (ptc (List.replicate n (0, 0)))
    rw [ptc_zeros, List.length_replicate, ← toList_madeCells_two]
    exact hown
  have ho1' := hid ho1
  clear ho1 hown hgr hi hz0 hz1 hz2
  go_loopw [4] (fun i wr => ∃ (k : Nat) (ys : List (Int × Int)), k ≤ n ∧ i = .int .i64 k ∧ Hid (ys.length = n) ∧ Hid (OwP wr w.heap.size (.slice (some ⟨w.heap.size, 0, none⟩) n n) ys) ∧ Hid (∀ j, j < k → ys[j]? = zs[j]?) ∧ Hid (Below w.heap.size w wr)) (fun i _ => n - (intOf i).toNat)
  case atStart => exact ⟨0, _, by omega, rfl, hid List.length_replicate, ho1', hid (fun j h => by omega), hb1⟩
  case round =>
    obtain ⟨k, ys, hk, rfl, hyl, hown, hall, hbel⟩ := hrel
    have hsz := hbel.out.size
    by_cases hlt : k < n
    · obtain ⟨ad, t, g, rfl, hx, c0, c1, c2⟩ := (h'.out.below hbel.out).at_ hlt
      have i0 : (0 : Int) ≤ (k : Int) := by omega
      have i1 : (k : Int) < (n : Int) := by omega
      go_wp2_with fail
      refine (toPut_any _ _ _).mono ?_
      rintro e w3 ⟨rfl, hb3⟩
      have ow3 := hid (hown.out.below hb3)
      have B3 := hid (hbel.out.trans (hb3.mono hsz))
      have hkl : k < ys.length := by rw [hyl.out]; exact hlt
      obtain ⟨y, hy⟩ : ∃ y, ys[k]? = some y := ⟨_, List.getElem?_eq_getElem hkl⟩
      have hyc := ptc_get ys k y hy
      have ow3' : w3.ownsRow w.heap.size 68 2 (.slice (some ⟨w.heap.size, 0, none⟩) n n) n (ptc ys) := by
        have := ow3.out
        rw [OwP, hyl.out] at this; exact this
      have d0 : w3.cell? ⟨w.heap.size, k * 2, none⟩ = some (.int .i64 y.1) := by rw [ow3'.cellAt (k * 2) (by omega)]; exact hyc.1
      have d1 : w3.cell? ⟨w.heap.size, k * 2 + 1, none⟩ = some (.int .i64 y.2) := by rw [ow3'.cellAt (k * 2 + 1) (by omega)]; exact hyc.2
      have e0 : w3.frozen? ⟨w.heap.size, k * 2, none⟩ = false := ow3'.frozenAt (k * 2)
      have e1 : w3.frozen? ⟨w.heap.size, k * 2 + 1, none⟩ = false := ow3'.frozenAt (k * 2 + 1)
      have hst := hid (OwP.set ow3.out hyl.out k hlt (t, g))
      clear hb3 ow3' hy hyc c0 c1 c2
      go_wp2
      go_roundw
      case rel => exact ⟨k + 1, ys.set k (t, g), by omega, by go_num, hid (by rw [List.length_set]; exact hyl.out), hst, hid (fun j hj => by
          by_cases e : j = k
          · subst e
            rw [List.getElem?_set_self hkl]; exact hx.out.symm
          · rw [List.getElem?_set_ne (fun h => e h.symm)]; exact hall.out j (by omega)), hid ((B3.out.setCell (Nat.le_refl _) _).setCell (Nat.le_refl _) _)⟩
      case measure => simp [intOf]; omega
    · have e : ys = zs := by
        apply List.ext_getElem? 
        intro i
        by_cases hi : i < n
        · exact hall.out i (by omega)
        · rw [List.getElem?_eq_none (by rw [hyl.out]; omega), List.getElem?_eq_none (by rw [hlen.out]; omega)]
      have hfin := hid (e ▸ hown.out)
      clear e
      go_wp2
      go_ret
      exact ⟨_, rfl, hfin.out, hbel.out⟩


set_option maxHeartbeats 2000000 in
theorem eqPutS_same {n c c' : Nat} {A A' : Option Addr} {zs : List (Int × Int)} (w : World) (h : RdP w A n zs) (k : RdP w A' n zs) (hn : n < 1099511627776) :
    Calls Try.prog 56 #[.slice A n c, .slice A' n c'] w fun e w' => e = .returned (.bool true) ∧ Below w.heap.size w w' := by
  have h' := hid h
  have k' := hid k
  clear h k
  go_enter Try.func56, Try.ntmps56
  go_wp2
  go_loopw [5] (fun i wr => ∃ j : Nat, j ≤ n ∧ i = .int .i64 j ∧ Hid (Below w.heap.size w wr)) (fun i _ => n - (intOf i).toNat)
  case atStart => exact ⟨0, by omega, rfl, hid (Below.refl _ _)⟩
  case round =>
    obtain ⟨j, hj, rfl, hB⟩ := hrel
    have hsz := hB.out.size
    by_cases hlt : j < n
    · obtain ⟨b, off, t, g, rfl, hx, hb, d0, d1⟩ := (h'.out.below hB.out).at_ hlt
      obtain ⟨b2, off2, t2, g2, rfl, hx2, hb2, f0, f1⟩ := (k'.out.below hB.out).at_ hlt
      have e := hx.out.symm.trans hx2.out
      injection e with e
      injection e with e1 e2
      subst e1; subst e2
      have i0 : (0 : Int) ≤ (j : Int) := by omega
      have i1 : (j : Int) < (n : Int) := by omega
      have q0 : wr.drew.cell? ⟨b, off + j * 2, none⟩ = some (.int .i64 t) := d0
      have q1 : wr.drew.cell? ⟨b, off + j * 2 + 1, none⟩ = some (.int .i64 g) := d1
      have q2 : wr.drew.cell? ⟨b2, off2 + j * 2, none⟩ = some (.int .i64 t) := f0
      have q3 : wr.drew.cell? ⟨b2, off2 + j * 2 + 1, none⟩ = some (.int .i64 g) := f1
      have Q := hid (And.intro q0 (And.intro q1 (And.intro q2 q3)))
      have hbd : b < wr.drew.heap.size := hb
      have hpd : b2 < wr.drew.heap.size := hb2
      have hB' : Hid (Below w.heap.size w wr.drew) := hid hB.out.drew
      have hsd : w.heap.size ≤ wr.drew.heap.size := hsz
      clear q0 q1 q2 q3 d0 d1 f0 f1
      go_wp2_with fail
      go_region_held3 (fun w' => w'.cell? ⟨b, off + j * 2, none⟩ = some (.int .i64 t) ∧ w'.cell? ⟨b, off + j * 2 + 1, none⟩ = some (.int .i64 g) ∧ w'.cell? ⟨b2, off2 + j * 2, none⟩ = some (.int .i64 t) ∧ w'.cell? ⟨b2, off2 + j * 2 + 1, none⟩ = some (.int .i64 g))
        (first | with_reducible exact ⟨Q.out.1, Q.out.2.1, Q.out.2.2.1, Q.out.2.2.2⟩ | with_reducible exact ⟨Q2.out.1, Q2.out.2.1, Q2.out.2.2.1, Q2.out.2.2.2⟩)
        (first | (go_at_call 75; (with_reducible refine (eqPut_same _ _ _).mono ?_); rintro e w5 ⟨rfl, hb5⟩; have Q2 := hid (And.intro ((hb5.cell (p := ⟨b, off + j * 2, none⟩) hbd).trans Q.out.1) (And.intro ((hb5.cell (p := ⟨b, off + j * 2 + 1, none⟩) hbd).trans Q.out.2.1) (And.intro ((hb5.cell (p := ⟨b2, off2 + j * 2, none⟩) hpd).trans Q.out.2.2.1) ((hb5.cell (p := ⟨b2, off2 + j * 2 + 1, none⟩) hpd).trans Q.out.2.2.2))))))
      have B5 := hid (hB'.out.trans (hb5.mono hsd))
      clear hb5
      go_wp2
      go_roundw
      case rel => exact ⟨j + 1, by omega, by go_num, B5⟩
      case measure => simp [intOf]; omega
    · go_wp2
      go_ret
      exact ⟨rfl, hB.out⟩


set_option maxHeartbeats 1000000 in
theorem szIntS_l {n c : Nat} {A : Option Addr} (l : Int) (w : World) (hn : n ≤ 9223372036854775807) (h0 : 0 ≤ l) (h1 : l ≤ 1048576) :
    Calls Try.prog 47 #[.slice A n c, .int .i64 l] w fun e w' => e = .returned (.int .i64 (if (n : Int) ≤ l then l - (n : Int) else -1)) ∧ w = w' := by
  by_cases h : (n : Int) ≤ l
  · have R := hid (show (if (n : Int) ≤ l then l - (n : Int) else -1) = l - (n : Int) from if_pos h)
    go_enter Try.func47, Try.ntmps47
    go_wp2
    go_ret
    exact ⟨rfl, rfl⟩
  · have R := hid (show (if (n : Int) ≤ l then l - (n : Int) else -1) = -1 from if_neg h)
    go_enter Try.func47, Try.ntmps47
    go_wp2
    go_ret
    exact ⟨rfl, rfl⟩


set_option maxHeartbeats 1000000 in
theorem szPutS_l {n c : Nat} {A : Option Addr} (l : Int) (w : World) (hn : n ≤ 9223372036854775807) (h0 : 0 ≤ l) (h1 : l ≤ 1048576) :
    Calls Try.prog 48 #[.slice A n c, .int .i64 l] w fun e w' => e = .returned (.int .i64 (if (n : Int) ≤ l then l - (n : Int) else -1)) ∧ w = w' := by
  by_cases h : (n : Int) ≤ l
  · have R := hid (show (if (n : Int) ≤ l then l - (n : Int) else -1) = l - (n : Int) from if_pos h)
    go_enter Try.func48, Try.ntmps48
    go_wp2
    go_ret
    exact ⟨rfl, rfl⟩
  · have R := hid (show (if (n : Int) ≤ l then l - (n : Int) else -1) = -1 from if_neg h)
    go_enter Try.func48, Try.ntmps48
    go_wp2
    go_ret
    exact ⟨rfl, rfl⟩


set_option maxHeartbeats 1000000 in
theorem szTxn_any {n c m d : Nat} {A B : Option Addr} {r : Int} (i : Int) (w : World) (hn : n ≤ 9223372036854775807) (hm : m ≤ 9223372036854775807) (hr : (if n + m ≤ 1048576 then 1048576 - (n : Int) - (m : Int) else -1) = r) :
    Calls Try.prog 14 #[txV (.slice A n c) i (.slice B m d), .int .i64 1048576] w fun e w' => e = .returned (.int .i64 r) ∧ Below w.heap.size w w' := by
  have hB := hid (below1 w (.cells #[.slice A n c, .int .i64 i, .slice B m d] 28))
  by_cases h1 : n ≤ 1048576
  · have hz : (if (n : Int) ≤ 1048576 then (1048576 : Int) - (n : Int) else -1) = 1048576 - (n : Int) := if_pos (by omega)
    by_cases h2 : n + m ≤ 1048576
    · have hr' := hid (show 1048576 - (n : Int) - (m : Int) = r by rw [← hr, if_pos h2])
      have hz2 : (if (m : Int) ≤ 1048576 - (n : Int) then (1048576 - (n : Int)) - (m : Int) else -1) = 1048576 - (n : Int) - (m : Int) := if_pos (by omega)
      replace hz := hid hz
      replace hz2 := hid hz2
      clear hr
      go_enter Try.func14, Try.ntmps14
      go_wp2_with fail
      refine (szIntS_l _ _ hn (by omega) (by omega)).mono ?_
      rw [hz.out]
      rintro e w1 ⟨rfl, rfl⟩
      go_wp2_with fail
      refine (szPutS_l _ _ hm (by omega) (by omega)).mono ?_
      rw [hz2.out]
      rintro e w1 ⟨rfl, rfl⟩
      go_wp2
      go_ret
      exact ⟨ret_int hr'.out, hB.out⟩
    · have hr' := hid (show (-1 : Int) = r by rw [← hr, if_neg h2])
      have hz2 : (if (m : Int) ≤ 1048576 - (n : Int) then (1048576 - (n : Int)) - (m : Int) else -1) = -1 := if_neg (by omega)
      replace hz := hid hz
      replace hz2 := hid hz2
      clear hr
      go_enter Try.func14, Try.ntmps14
      go_wp2_with fail
      refine (szIntS_l _ _ hn (by omega) (by omega)).mono ?_
      rw [hz.out]
      rintro e w1 ⟨rfl, rfl⟩
      go_wp2_with fail
      refine (szPutS_l _ _ hm (by omega) (by omega)).mono ?_
      rw [hz2.out]
      rintro e w1 ⟨rfl, rfl⟩
      go_wp2
      go_ret
      exact ⟨ret_int hr'.out, hB.out⟩
  · have hr' := hid (show (-1 : Int) = r by rw [← hr, if_neg (by omega)])
    have hz := hid (show (if (n : Int) ≤ 1048576 then (1048576 : Int) - (n : Int) else -1) = -1 from if_neg (by omega))
    clear hr
    go_enter Try.func14, Try.ntmps14
    go_wp2_with fail
    refine (szIntS_l _ _ hn (by omega) (by omega)).mono ?_
    rw [hz.out]
    rintro e w1 ⟨rfl, rfl⟩
    go_wp2
    go_ret
    exact ⟨ret_int hr'.out, hB.out⟩


/-! ### marks -/
def marksP (k : Int) (n : Nat) : List (Int × Int) := (List.range n).map fun (i : Nat) => (k + 2 * (i : Int), k + 2 * (i : Int) + 1)

theorem marksP_len (k : Int) (n : Nat) : (marksP k n).length = n := by simp [marksP]

theorem marksP_get {k : Int} {n i : Nat} (h : i < n) : (marksP k n)[i]? = some (k + 2 * (i : Int), k + 2 * (i : Int) + 1) := by simp [marksP, h]

theorem OwP.blk {w : World} {B n c : Nat} {A : Option Addr} {zs : List (Int × Int)} (h : OwP w B (.slice A n c) zs) (hn : 0 < zs.length) : ∃ g, A = some ⟨g, 0, none⟩ ∧ g < w.heap.size ∧ B ≤ g ∧ zs.length = n := by
  rcases h.2 with ⟨e, h0⟩ | ⟨g, cap, cur, e, hb, hh, hrest⟩
  · omega
  · injection e with e1 e2 e3
    exact ⟨g, e1, (Array.getElem?_eq_some_iff.1 hh).1, hb, e2.symm⟩

theorem grown_two {w wr : World} {g : Nat} (h : w.grownBy wr (some g)) (i : Nat) (u0 u1 : Value) : w.grownBy ((wr.setCell ⟨g, i, none⟩ u0).setCell ⟨g, i + 1, none⟩ u1) (some g) :=
  ⟨h.os, h.tape, h.output, by simp [World.setCell]; exact h.size, fun j hj hne => (Below.heap_setCell _ _ _ j (fun e => hne (by rw [e]))).trans ((Below.heap_setCell _ _ _ j (fun e => hne (by rw [e]))).trans (h.block j hj hne))⟩

set_option maxHeartbeats 4000000 in
theorem markPutS_any {lo n c : Nat} {A : Option Addr} {zs : List (Int × Int)} (k0 : Int) (w : World) (ho : OwP w lo (.slice A n c) zs) (hl : zs.length = n) (hn : n < 1099511627776) (hk0 : 0 ≤ k0) (hk1 : k0 < 1099511627776000) :
    Calls Try.prog 62 #[.slice A n c, .int .i64 k0] w fun e w' => e = .returned (.int .i64 (k0 + 2 * (n : Int))) ∧ OwP w' lo (.slice A n c) (marksP k0 n) ∧ w.grownBy w' (Value.slice A n c).ownBlock ∧ w'.heap.size = w.heap.size := by
  rcases Nat.eq_zero_or_pos n with h0 | h0
  · subst h0
    have hz : zs = [] := List.eq_nil_of_length_eq_zero hl
    subst hz
    go_enter Try.func62, Try.ntmps62
    go_wp2
    go_rounds 1
    go_ret
    exact ⟨ret_int (by simp), ho, World.grownBy.refl _ _, rfl⟩
  · obtain ⟨g, rfl, hg, hlo, -⟩ := ho.blk (by omega)
    have ho' := hid ho
    have hln' := hid hl
    clear ho hl
    go_enter Try.func62, Try.ntmps62
    go_wp2
    go_loopw [1, 5] (fun x i wr => ∃ (k : Nat) (ys : List (Int × Int)), k ≤ n ∧ i = .int .i64 k ∧ x = .int .i64 (k0 + 2 * (k : Int)) ∧ Hid (ys.length = n) ∧ Hid (OwP wr lo (.slice (some ⟨g, 0, none⟩) n c) ys) ∧ Hid (∀ j, j < k → ys[j]? = some (k0 + 2 * (j : Int), k0 + 2 * (j : Int) + 1)) ∧ Hid (w.grownBy wr (some g)) ∧ Hid (wr.heap.size = w.heap.size)) (fun _ i _ => n - (intOf i).toNat)
    case atStart => exact ⟨0, zs, by omega, rfl, by simp, hln', ho', hid (fun j h => by omega), hid (World.grownBy.refl _ _), hid rfl⟩
    case round =>
      obtain ⟨k, ys, hk, rfl, rfl, hyl, hown, hall, hgr, hsz⟩ := hrel
      by_cases hlt : k < n
      · have hkl : k < ys.length := by rw [hyl.out]; exact hlt
        obtain ⟨y, hy⟩ : ∃ y, ys[k]? = some y := ⟨_, List.getElem?_eq_getElem hkl⟩
        have hyc := ptc_get ys k _ hy
        have ow3' : wr.ownsRow lo 68 2 (.slice (some ⟨g, 0, none⟩) n c) n (ptc ys) := by
          have := hown.out
          rw [OwP, hyl.out] at this; exact this
        have hel : k * 2 + 1 < (ptc ys).length := by rw [ptc_len]; omega
        have d0 : wr.cell? ⟨g, k * 2, none⟩ = some (.int .i64 y.1) := by rw [ow3'.cellAt (k * 2) (by omega)]; exact hyc.1
        have d1 : wr.cell? ⟨g, k * 2 + 1, none⟩ = some (.int .i64 y.2) := by rw [ow3'.cellAt (k * 2 + 1) (by omega)]; exact hyc.2
        have e0 : wr.frozen? ⟨g, k * 2, none⟩ = false := ow3'.frozenAt (k * 2)
        have e1 : wr.frozen? ⟨g, k * 2 + 1, none⟩ = false := ow3'.frozenAt (k * 2 + 1)
        have hst := hid (OwP.set hown.out hyl.out k hlt (k0 + 2 * (k : Int), k0 + 2 * (k : Int) + 1))
        have hgz := hid (grown_two hgr.out (k * 2) (.int .i64 (k0 + 2 * (k : Int))) (.int .i64 (k0 + 2 * (k : Int) + 1)))
        have i0 : (0 : Int) ≤ (k : Int) := by omega
        have i1 : (k : Int) < (n : Int) := by omega
        clear ow3' hy hyc hel
        go_wp2
        go_roundw
        case rel => exact ⟨k + 1, ys.set k (k0 + 2 * (k : Int), k0 + 2 * (k : Int) + 1), by omega, by go_num, by go_num, hid (by rw [List.length_set]; exact hyl.out), hst, hid (fun j hj => by
            by_cases e : j = k
            · subst e
              rw [List.getElem?_set_self hkl]
            · rw [List.getElem?_set_ne (fun h => e h.symm)]; exact hall.out j (by omega)), hgz, hid (by simpa using hsz.out)⟩
        case measure => simp [intOf]; omega
      · have hkn : k = n := by omega
        have e : ys = marksP k0 n := by
          apply List.ext_getElem?
          intro i
          by_cases hi : i < n
          · rw [hall.out i (by omega), marksP_get hi]
          · rw [List.getElem?_eq_none (by rw [hyl.out]; omega), List.getElem?_eq_none (by rw [marksP_len]; omega)]
        have hfin := hid (e ▸ hown.out)
        have hkn' := hid hkn
        clear e hkn
        go_wp2
        go_ret
        exact ⟨ret_int (by rw [hkn'.out]), hfin.out, hgr.out, hsz.out⟩


end Go.Proofs.Ythnkilacknoklaa
