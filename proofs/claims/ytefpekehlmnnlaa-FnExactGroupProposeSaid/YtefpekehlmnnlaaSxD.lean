/-
  The exact laws' helpers over slices of stamps: szStampS, toStampS, eqStampS. No condition but lengths below 2^40.
-/
import Derived.Test.YtefpekehlmnnlaaSmE
import Derived.Test.YtefpekehlmnnlaaSxB
namespace Go.Proofs.Ytefpekehlmnnlaa
open Go.RowKit

/-- a slice of stamps that came in: '.slice A n c' reads as zs -/
def RdA (w : World) (A : Option Addr) (n : Nat) (zs : List St) : Prop :=
  zs.length = n ∧ (0 < n → ∃ ad, A = some ad ∧ ad.block < w.heap.size ∧ ∀ j x, zs[j]? = some x → w.cell? (ad.add (j * 2)) = some (.int .i64 x.1) ∧ w.cell? (ad.add (j * 2 + 1)) = some (.int .i64 x.2))

theorem RdA.below {w w' : World} {A : Option Addr} {n : Nat} {zs : List St} (h : RdA w A n zs) (hb : Below w.heap.size w w') : RdA w' A n zs :=
  ⟨h.1, fun hn => by
    obtain ⟨ad, e, hl, hc⟩ := h.2 hn
    refine ⟨ad, e, Nat.lt_of_lt_of_le hl hb.size, fun j x hx => ⟨(hb.cell (by rw [block_of_add]; exact hl)).trans (hc j x hx).1, (hb.cell (by rw [block_of_add]; exact hl)).trans (hc j x hx).2⟩⟩⟩

theorem RdA.at_ {w : World} {A : Option Addr} {n k : Nat} {zs : List St} (h : RdA w A n zs) (hk : k < n) :
    ∃ ad t g, A = some ad ∧ Hid (zs[k]? = some (t, g)) ∧ w.cell? (ad.add (k * 2)) = some (.int .i64 t) ∧ w.cell? (ad.add (k * 2 + 1)) = some (.int .i64 g) ∧ w.cell? ⟨(ad.add (k * 2)).block, (ad.add (k * 2)).off + 1, none⟩ = some (.int .i64 g) := by
  obtain ⟨ad, e, hl, hc⟩ := h.2 (by omega)
  have hlen : k < zs.length := by rw [h.1]; exact hk
  have hx : zs[k]? = some zs[k] := List.getElem?_eq_getElem hlen
  exact ⟨ad, zs[k].1, zs[k].2, e, hx, (hc k _ hx).1, (hc k _ hx).2, by
    have e : (ad.add (k * 2)).add 1 = ⟨(ad.add (k * 2)).block, (ad.add (k * 2)).off + 1, none⟩ := rfl
    rw [← e, add_of_add]; exact (hc k _ hx).2⟩

theorem RdA.of_pairs {w : World} {x : Addr} {n : Nat} (h : ∀ i, i < n → ∃ t g : Int, w.cell? (x.add (i * 2)) = some (.int .i64 t) ∧ w.cell? (x.add (i * 2 + 1)) = some (.int .i64 g)) : ∃ zs, RdA w (some x) n zs := by
  refine ⟨(List.range n).map fun i => (intOf ((w.cell? (x.add (i * 2))).getD undef), intOf ((w.cell? (x.add (i * 2 + 1))).getD undef)), by simp, fun hn => ⟨x, rfl, ?_, fun j y hy => ?_⟩⟩
  · obtain ⟨t, g, e0, _⟩ := h 0 hn
    have := World.block_lt_of_cell? w _ e0
    rwa [block_of_add] at this
  · have hj : j < n := by
      have := (List.getElem?_eq_some_iff.1 hy).1
      simpa using this
    obtain ⟨t, g, e0, e1⟩ := h j hj
    rw [List.getElem?_map, List.getElem?_range hj] at hy
    simp only [Option.map_some, e0, e1, Option.getD_some, Option.some.injEq] at hy
    subst hy
    exact ⟨e0, e1⟩

theorem toList_madeCells_two (z : Value) (m : Nat) : (madeCells #[z, z] m).toList = List.replicate m z := by
  apply List.ext_getElem (by simp [madeCells])
  intro i h1 h2
  have : i % 2 = 0 ∨ i % 2 = 1 := by omega
  rcases this with h | h <;> simp [madeCells, h]

theorem stc_zeros (n : Nat) : stc (List.replicate n (0, 0)) = List.replicate (n * 2) (.int .i64 0) := by
  induction n with
  | zero => rfl
  | succ n ih =>
    rw [show (n + 1) * 2 = n * 2 + 1 + 1 by omega]
    simp [List.replicate_succ, stc, ih]

theorem stc_set : ∀ (l : List St) (k : Nat) (x : St), k < l.length → stc (l.set k x) = ((stc l).set (k * 2) (.int .i64 x.1)).set (k * 2 + 1) (.int .i64 x.2)
  | [], k, x, h => by simp at h
  | y :: l, 0, x, h => rfl
  | y :: l, k + 1, x, h => by
    have ih := stc_set l k x (by simpa using h)
    rw [show (k + 1) * 2 = k * 2 + 1 + 1 by omega]
    simp [stc, ih]

theorem OwS.set {w : World} {B g n c : Nat} {zs : List St} (h : OwS w B (.slice (some ⟨g, 0, none⟩) n c) zs) (hn : zs.length = n) (k : Nat) (hk : k < n) (x : St) :
    OwS ((w.setCell ⟨g, k * 2, none⟩ (.int .i64 x.1)).setCell ⟨g, k * 2 + 1, none⟩ (.int .i64 x.2)) B (.slice (some ⟨g, 0, none⟩) n c) (zs.set k x) := by
  subst hn
  have h1 := (h.stored (k * 2) (.int .i64 x.1)).1
  have h2 := (h1.stored (k * 2 + 1) (.int .i64 x.2)).1
  show World.ownsRow _ B 38 2 _ (zs.set k x).length (stc (zs.set k x))
  rw [stc_set zs k x hk, List.length_set]
  exact h2

end Go.Proofs.Ytefpekehlmnnlaa
