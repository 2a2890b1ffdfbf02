/-
  Maps of ints by what they hold at the keys 0 to 14; slices of puts and of transactions in memory. No condition.
-/
import Derived.Test.YteagmkhpfmiaiaaSoA
import Derived.Test.YteagmkhpfmiaiaaKp
import Derived.Maps.OwnSet
import Derived.Maps.OwnIn
import Derived.Maps.RangeWalk
import Derived.Maps.Ext
import Derived.Lib.SlMapMerge
namespace Go.Proofs.Yteagmkhpfmiaiaa
open Go.RowKit
set_option linter.unusedVariables false
set_option linter.unusedSimpArgs false

/-! ### maps -/
theorem keyI : Maps.Keyed Try.prog 3 := Maps.int_keyed Try.underlying3

theorem zeroI (w : World) : (zeroValue 3).run Try.prog w = .ok (.int .i64 0) w := by kernel_rfl
/-- block b is a map that reads as D -/
abbrev OwMp (w : World) (b n : Nat) (D : DataW Unit) : Prop := w.ownsMap Try.prog 3 (plainElem Try.prog 3) b n D

theorem wfK {k : Int} (h0 : 0 ≤ k) (h1 : k ≤ 14) : (Lit.int .i64 k).wf = true := WalkArith.wf_i64 (by omega)

theorem keyK {k : Int} (h0 : 0 ≤ k) (h1 : k ≤ 14) : keyOf Try.prog 3 (.int .i64 k) = some (.int .i64 k) := Maps.keyOf_int_mk Try.underlying3 (wfK h0 h1)

theorem litK {k : Int} (h0 : 0 ≤ k) (h1 : k ≤ 14) : WideAt.IsKeyLit (.int .i64 k) := keyI.key (keyK h0 h1)
/-- block b is a map of at most n entries that holds F at the keys -/
def MapF (w : World) (b n : Nat) (F : Int → Int) : Prop :=
  ∃ D : DataW Unit, OwMp w b n D ∧ ∀ k, 0 ≤ k → k ≤ 14 → D.atKey (.int .i64 k) (.lit (.int .i64 0)) = .lit (.int .i64 (F k))
/-- .. of which G tells what is there -/
def MapG (w : World) (b n : Nat) (G : Int → Option Int) : Prop :=
  ∃ D : DataW Unit, OwMp w b n D ∧ ∀ k, 0 ≤ k → k ≤ 14 → Maps.has D (.int .i64 k) = (G k).isSome ∧ ∀ z, D.atKey (.int .i64 k) z = (match G k with | some v => .lit (.int .i64 v) | none => z)
section
variable {w w' : World} {b n n' : Nat} {F : Int → Int} {G : Int → Option Int} {S : Nat → Prop}

theorem MapG.toF (h : MapG w b n G) (hF : ∀ k, 0 ≤ k → k ≤ 14 → (G k).getD 0 = F k) : MapF w b n F := by
  obtain ⟨D, h1, h2⟩ := h
  refine ⟨D, h1, fun k h0 h14 => ?_⟩
  rw [(h2 k h0 h14).2, ← hF k h0 h14]
  cases G k <;> rfl

theorem MapF.congr {F' : Int → Int} (h : MapF w b n F) (hF : ∀ k, 0 ≤ k → k ≤ 14 → F k = F' k) : MapF w b n F' := by
  obtain ⟨D, h1, h2⟩ := h
  exact ⟨D, h1, fun k h0 h14 => by rw [h2 k h0 h14, hF k h0 h14]⟩

theorem MapF.mono (h : MapF w b n F) (hn : n ≤ n') : MapF w b n' F := by obtain ⟨D, h1, h2⟩ := h; exact ⟨D, h1.mono hn, h2⟩

theorem MapG.mono (h : MapG w b n G) (hn : n ≤ n') : MapG w b n' G := by obtain ⟨D, h1, h2⟩ := h; exact ⟨D, h1.mono hn, h2⟩

theorem MapF.lt (h : MapF w b n F) : b < w.heap.size := by obtain ⟨D, h1, _⟩ := h; exact h1.lt

theorem MapG.lt (h : MapG w b n G) : b < w.heap.size := by obtain ⟨D, h1, _⟩ := h; exact h1.lt

theorem own_block {D : DataW Unit} (h : OwMp w b n D) (hb : w'.heap[b]? = w.heap[b]?) : OwMp w' b n D := by
  obtain ⟨es, clock, hbb, hr⟩ := h
  exact ⟨es, clock, hb.trans hbb, hr⟩

theorem MapF.block (h : MapF w b n F) (hb : w'.heap[b]? = w.heap[b]?) : MapF w' b n F := by obtain ⟨D, h1, h2⟩ := h; exact ⟨D, own_block h1 hb, h2⟩

theorem MapG.block (h : MapG w b n G) (hb : w'.heap[b]? = w.heap[b]?) : MapG w' b n G := by obtain ⟨D, h1, h2⟩ := h; exact ⟨D, own_block h1 hb, h2⟩

theorem MapF.kp (h : MapF w b n F) (hk : Kp S w w') (hS : ¬ S b) : MapF w' b n F := h.block (hk.block b h.lt hS)

theorem MapG.kp (h : MapG w b n G) (hk : Kp S w w') (hS : ¬ S b) : MapG w' b n G := h.block (hk.block b h.lt hS)

theorem MapF.step (h : MapF w b n F) (hk : Below w.heap.size w w') : MapF w' b n F := h.block (hk.block b h.lt)

theorem MapG.step (h : MapG w b n G) (hk : Below w.heap.size w w') : MapG w' b n G := h.block (hk.block b h.lt)

theorem MapF.grown {row : Option Nat} (h : MapF w b n F) (hg : w.grownBy w' row) (hne : row ≠ some b) : MapF w' b n F := h.block (hg.block b h.lt (fun e => hne e.symm))

theorem MapG.grown {row : Option Nat} (h : MapG w b n G) (hg : w.grownBy w' row) (hne : row ≠ some b) : MapG w' b n G := h.block (hg.block b h.lt (fun e => hne e.symm))

theorem MapF.alloc (h : MapF w b n F) (o : Obj) : MapF (w.alloc o) b n F := h.step (below1 w o)

theorem MapG.alloc (h : MapG w b n G) (o : Obj) : MapG (w.alloc o) b n G := h.step (below1 w o)

theorem MapF.drew (h : MapF w b n F) : MapF w.drew b n F := h

theorem MapG.drew (h : MapG w b n G) : MapG w.drew b n G := h

theorem MapG.made (w : World) : MapG (w.alloc (.map #[] 0)) w.heap.size 0 (fun _ => none) :=
  ⟨_, World.ownsMap_made w _ _ _, fun k _ _ => ⟨rfl, fun _ => rfl⟩⟩

theorem MapF.made (w : World) : MapF (w.alloc (.map #[] 0)) w.heap.size 0 (fun _ => 0) := (MapG.made w).toF fun _ _ _ => rfl

theorem MapF.made' {w : World} {b : Nat} (h : w.heap.size = b) : MapF (w.alloc (.map #[] 0)) b 0 (fun _ => 0) := by subst h; exact MapF.made w

theorem MapG.made' {w : World} {b : Nat} (h : w.heap.size = b) : MapG (w.alloc (.map #[] 0)) b 0 (fun _ => none) := by subst h; exact MapG.made w
end

section
variable {w : World} {ops : Array Oper} {rest : List Oper} {o : Oper} {a : Act} {Q : Exit → Act → World → Prop}
/-- 'm[k]' -/
theorem wpList_lookF (hg : o.guard = none) (m x : Operand) (hop : o.op = Op.lookup 59 m x false) {b n : Nat} {F : Int → Int} {k : Int} (hm : a.eval m = .map (some b)) (hx : a.eval x = .int .i64 k) (hF : MapF w b n F) (h0 : 0 ≤ k) (h1 : k ≤ 14)
    (h : wpList Try.prog ops Q rest (a.put o.dst (.int .i64 (F k))) w) : wpList Try.prog ops Q (o :: rest) a w := by
  obtain ⟨D, hown, hD⟩ := hF
  refine wpList_lookup_own_int w hg m x 59 hop 3 3 .i64 keyI Try.underlying59 Try.underlying3 (zeroI w) b n D hm hown _ _ hx (keyK h0 h1) fun c hat _ => ?_
  rw [hD k h0 h1] at hat
  injection hat with hat
  injection hat with _ hat
  subst hat
  exact h
/-- 'm[k] = v' -/
theorem wpList_putG (hg : o.guard = none) (m x v : Operand) (hop : o.op = Op.mapUpdate 59 m x v) {b n : Nat} {G : Int → Option Int} {k z : Int} (hm : a.eval m = .map (some b)) (hx : a.eval x = .int .i64 k) (hv : a.eval v = .int .i64 z) (hG : MapG w b n G) (h0 : 0 ≤ k) (h1 : k ≤ 14)
    (hn : n < 1099511627776) (hz : (Lit.int .i64 z).wf = true)
    (h : ∀ w', MapG w' b (n + 1) (fun i => if i = k then some z else G i) → w.grownBy w' (some b) → wpList Try.prog ops Q rest (a.put o.dst undef) w') : wpList Try.prog ops Q (o :: rest) a w := by
  obtain ⟨D, hown, hD⟩ := hG
  refine wpList_mapUpdate_own w hg m x v 59 hop 3 3 keyI Try.underlying59 (plainElem Try.prog 3) b n D hm hown (by unfold maxLen; omega) _ _ _ hx hv (keyK h0 h1) _ [] (plainElem_int Try.underlying3 hz) fun w' h1' h2' => h w' ⟨_, h1', fun i i0 i1 => ?_⟩ h2'
  by_cases e : i = k
  · subst e
    dsimp only
    rw [if_pos rfl]
    exact ⟨Maps.has_put_same hown.isMap (litK h0 h1) _, fun zz => Maps.atKey_put_same hown.isMap (litK h0 h1) _ _⟩
  · have hne : (Lit.int .i64 i) ≠ (Lit.int .i64 k) := fun h => by injection h with _ h; exact e h
    dsimp only
    rw [if_neg e, Maps.has_put_other hne]
    exact ⟨(hD i i0 i1).1, fun zz => by rw [Maps.atKey_put_other hne]; exact (hD i i0 i1).2 zz⟩

theorem putF_map {w' : World} {D : DataW Unit} {b n : Nat} {F : Int → Int} {k z : Int} (hm : Maps.IsMap D) (hD : ∀ k, 0 ≤ k → k ≤ 14 → D.atKey (.int .i64 k) (.lit (.int .i64 0)) = .lit (.int .i64 (F k))) (h0 : 0 ≤ k) (h1 : k ≤ 14)
    (h : OwMp w' b n (D.put (.int .i64 k) (.lit (.int .i64 z)))) : MapF w' b n (fun i => if i = k then z else F i) := by
  refine ⟨_, h, fun i i0 i1 => ?_⟩
  by_cases e : i = k
  · subst e
    dsimp only
    rw [if_pos rfl]
    exact Maps.atKey_put_same hm (litK h0 h1) _ _
  · have hne : (Lit.int .i64 i) ≠ (Lit.int .i64 k) := fun h => by injection h with _ h; exact e h
    dsimp only
    rw [if_neg e, Maps.atKey_put_other hne]
    exact hD i i0 i1

theorem wpList_putF (hg : o.guard = none) (m x v : Operand) (hop : o.op = Op.mapUpdate 59 m x v) {b n : Nat} {F : Int → Int} {k z : Int} (hm : a.eval m = .map (some b)) (hx : a.eval x = .int .i64 k) (hv : a.eval v = .int .i64 z) (hF : MapF w b n F) (h0 : 0 ≤ k) (h1 : k ≤ 14)
    (hn : n < 1099511627776) (hz : (Lit.int .i64 z).wf = true)
    (h : ∀ w', MapF w' b (n + 1) (fun i => if i = k then z else F i) → w.grownBy w' (some b) → wpList Try.prog ops Q rest (a.put o.dst undef) w') : wpList Try.prog ops Q (o :: rest) a w := by
  obtain ⟨D, hown, hD⟩ := hF
  exact wpList_mapUpdate_own w hg m x v 59 hop 3 3 keyI Try.underlying59 (plainElem Try.prog 3) b n D hm hown (by unfold maxLen; omega) _ _ _ hx hv (keyK h0 h1) _ [] (plainElem_int Try.underlying3 hz) fun w' h1' h2' =>
    h w' (putF_map hown.isMap hD h0 h1 h1') h2'
/-- in a fence -/
theorem wpListIn_putF {Fe : Fence} {nF : Nat} (hg : o.guard = none) (m x v : Operand) (hop : o.op = Op.mapUpdate 59 m x v) {b n : Nat} {F : Int → Int} {k z : Int} (hm : a.eval m = .map (some b)) (hx : a.eval x = .int .i64 k) (hv : a.eval v = .int .i64 z) (hF : MapF w b n F) (h0 : 0 ≤ k) (h1 : k ≤ 14)
    (hn : n < 1099511627776) (hz : (Lit.int .i64 z).wf = true)
    (h : ∀ w', MapF w' b (n + 1) (fun i => if i = k then z else F i) → w.grownBy w' (some b) → wpListIn Fe nF Try.prog ops Q rest (a.put o.dst undef) w') : wpListIn Fe nF Try.prog ops Q (o :: rest) a w := by
  obtain ⟨D, hown, hD⟩ := hF
  exact wpListIn_mapUpdate_own w hg m x v 59 hop 3 3 keyI Try.underlying59 (plainElem Try.prog 3) b n D hm hown (by unfold maxLen; omega) _ _ _ hx hv (keyK h0 h1) _ [] (plainElem_int Try.underlying3 hz) fun w' h1' h2' =>
    h w' (putF_map hown.isMap hD h0 h1 h1') h2'
end

/-! ### slices of puts -/
/-- the cells of a list of puts -/
def ptc : List (Int × Int) → List Value
  | [] => []
  | x :: l => .int .i64 x.1 :: .int .i64 x.2 :: ptc l

theorem ptc_len (l : List (Int × Int)) : (ptc l).length = l.length * 2 := by
  induction l with
  | nil => rfl
  | cons x l ih => simp [ptc, ih]; omega

theorem ptc_app (l m : List (Int × Int)) : ptc (l ++ m) = ptc l ++ ptc m := by
  induction l with
  | nil => rfl
  | cons x l ih => simp [ptc, ih]

theorem ptc_one (l : List (Int × Int)) : ∀ u ∈ ptc l, u.oneCell' = true := by
  induction l with
  | nil => intro u hu; cases hu
  | cons x l ih =>
    intro u hu
    rcases List.mem_cons.1 hu with rfl | hu
    · rfl
    · rcases List.mem_cons.1 hu with rfl | hu
      · rfl
      · exact ih u hu

theorem ptc_get : ∀ (l : List (Int × Int)) (j : Nat) (x : Int × Int), l[j]? = some x → (ptc l)[j * 2]? = some (.int .i64 x.1) ∧ (ptc l)[j * 2 + 1]? = some (.int .i64 x.2)
  | [], j, x, h => by simp at h
  | y :: l, 0, x, h => by simp at h; subst h; exact ⟨rfl, rfl⟩
  | y :: l, j + 1, x, h => by
    have := ptc_get l j x (by simpa using h)
    rw [show (j + 1) * 2 = j * 2 + 1 + 1 by omega]
    exact this
/-- '.slice A n c' reads as the puts zs -/
def RdP (w : World) (A : Option Addr) (n : Nat) (zs : List (Int × Int)) : Prop :=
  zs.length = n ∧ (0 < n → ∃ b off, A = some ⟨b, off, none⟩ ∧ b < w.heap.size ∧
    ∀ j x, zs[j]? = some x → w.cell? ⟨b, off + j * 2, none⟩ = some (.int .i64 x.1) ∧ w.cell? ⟨b, off + j * 2 + 1, none⟩ = some (.int .i64 x.2))
section
variable {w w' : World} {A : Option Addr} {n : Nat} {zs : List (Int × Int)} {S : Nat → Prop}

theorem RdP.len (h : RdP w A n zs) : zs.length = n := h.1

theorem RdP.nil_ : RdP w A 0 [] := ⟨rfl, fun h => absurd h (by omega)⟩

theorem RdP.step (h : RdP w A n zs) (hb : Below w.heap.size w w') : RdP w' A n zs :=
  ⟨h.1, fun hn => by
    obtain ⟨b, off, e, hl, hc⟩ := h.2 hn
    exact ⟨b, off, e, Nat.lt_of_lt_of_le hl hb.size, fun j x hx => ⟨(hb.cell hl).trans (hc j x hx).1, (hb.cell hl).trans (hc j x hx).2⟩⟩⟩

theorem RdP.kp (h : RdP w A n zs) (hk : Kp S w w') (hS : ∀ b off, A = some ⟨b, off, none⟩ → ¬ S b) : RdP w' A n zs :=
  ⟨h.1, fun hn => by
    obtain ⟨b, off, e, hl, hc⟩ := h.2 hn
    exact ⟨b, off, e, Nat.lt_of_lt_of_le hl hk.size, fun j x hx => ⟨(hk.cell (p := ⟨b, _, none⟩) hl (hS b off e)).trans (hc j x hx).1, (hk.cell (p := ⟨b, _, none⟩) hl (hS b off e)).trans (hc j x hx).2⟩⟩⟩

theorem RdP.drew (h : RdP w A n zs) : RdP w.drew A n zs := h

theorem RdP.at_ {k : Nat} (h : RdP w A n zs) (hk : k < n) :
    ∃ b off t g, A = some ⟨b, off, none⟩ ∧ Hid (zs[k]? = some (t, g)) ∧ b < w.heap.size ∧ w.cell? ⟨b, off + k * 2, none⟩ = some (.int .i64 t) ∧ w.cell? ⟨b, off + k * 2 + 1, none⟩ = some (.int .i64 g) := by
  obtain ⟨b, off, e, hl, hc⟩ := h.2 (by omega)
  have hlen : k < zs.length := by rw [h.1]; exact hk
  have hx : zs[k]? = some zs[k] := List.getElem?_eq_getElem hlen
  exact ⟨b, off, zs[k].1, zs[k].2, e, hx, hl, (hc k _ hx).1, (hc k _ hx).2⟩
/-- where a put lies -/
theorem RdP.addr (h : RdP w A n zs) (hn : 0 < n) : ∃ b off, A = some ⟨b, off, none⟩ ∧ b < w.heap.size := by
  obtain ⟨b, off, e, hl, _⟩ := h.2 hn
  exact ⟨b, off, e, hl⟩
end
end Go.Proofs.Yteagmkhpfmiaiaa
