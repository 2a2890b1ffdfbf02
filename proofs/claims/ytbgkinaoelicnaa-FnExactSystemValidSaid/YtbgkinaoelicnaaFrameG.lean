/-
  What the frames of laws over a group need: the reading of such an argument, opened.
-/
import Derived.Test.YtbgkinaoelicnaaMgE
import Derived.Deep.Slices
import Derived.Lib.SmallJoins
import Derived.ProofKit
import Derived.OpenShut
namespace Go.Proofs.Ytbgkinaoelicnaa
open Go.RowKit Go.Deep Go.ChangeShapes Go.WideShapes Go.Joins
set_option linter.unusedSimpArgs false
set_option linter.unusedVariables false

/-- a slice of entries that came in -/
def RdX (w : World) (A : Option Addr) (n : Nat) (zs : List En) : Prop :=
  zs.length = n ∧ (0 < n → ∃ ad, A = some ad ∧ ad.block < w.heap.size ∧ ∀ j x, zs[j]? = some x →
    w.cell? (ad.add (j * 4)) = some (.int .i64 x.1) ∧ w.cell? (ad.add (j * 4 + 1)) = some (.int .i64 x.2.1.1) ∧ w.cell? (ad.add (j * 4 + 2)) = some (.int .i64 x.2.1.2) ∧ w.cell? (ad.add (j * 4 + 3)) = some (.bool x.2.2))

theorem RdX.below {w w' : World} {A : Option Addr} {n : Nat} {zs : List En} (h : RdX w A n zs) (hb : Below w.heap.size w w') : RdX w' A n zs :=
  ⟨h.1, fun hn => by
    obtain ⟨ad, e, hl, hc⟩ := h.2 hn
    have hk : ∀ i, w'.cell? (ad.add i) = w.cell? (ad.add i) := fun i => hb.cell (by rw [block_of_add]; exact hl)
    refine ⟨ad, e, Nat.lt_of_lt_of_le hl hb.size, fun j x hx => ?_⟩
    rw [hk, hk, hk, hk]; exact hc j x hx⟩

theorem RdX.kp {S : Nat → Prop} {w w' : World} {A : Option Addr} {n : Nat} {zs : List En} (h : RdX w A n zs) (hk : Kp S w w') (hS : ∀ ad, A = some ad → ¬ S ad.block) : RdX w' A n zs :=
  ⟨h.1, fun hn => by
    obtain ⟨ad, e, hl, hc⟩ := h.2 hn
    have hk' : ∀ i, w'.cell? (ad.add i) = w.cell? (ad.add i) := fun i => hk.cell (by rw [block_of_add]; exact hl) (by rw [block_of_add]; exact hS ad e)
    refine ⟨ad, e, Nat.lt_of_lt_of_le hl hk.size, fun j x hx => ?_⟩
    rw [hk', hk', hk', hk']; exact hc j x hx⟩

theorem RdX.at_ {w : World} {A : Option Addr} {n k : Nat} {zs : List En} (h : RdX w A n zs) (hk : k < n) :
    ∃ ad m t g f, A = some ad ∧ Hid (zs[k]? = some (m, (t, g), f)) ∧ w.cell? (ad.add (k * 4)) = some (.int .i64 m) ∧ w.cell? ⟨(ad.add (k * 4)).block, (ad.add (k * 4)).off + 1, none⟩ = some (.int .i64 t) ∧ w.cell? ⟨(ad.add (k * 4)).block, (ad.add (k * 4)).off + 2, none⟩ = some (.int .i64 g) ∧ w.cell? ⟨(ad.add (k * 4)).block, (ad.add (k * 4)).off + 3, none⟩ = some (.bool f) := by
  obtain ⟨ad, e, hl, hc⟩ := h.2 (by omega)
  have hlen : k < zs.length := by rw [h.1]; exact hk
  have hx : zs[k]? = some zs[k] := List.getElem?_eq_getElem hlen
  have hq := hc k _ hx
  refine ⟨ad, zs[k].1, zs[k].2.1.1, zs[k].2.1.2, zs[k].2.2, e, hx, hq.1, ?_, ?_, ?_⟩
  · have e1 : (ad.add (k * 4)).add 1 = ⟨(ad.add (k * 4)).block, (ad.add (k * 4)).off + 1, none⟩ := rfl
    rw [← e1, add_of_add]; exact hq.2.1
  · have e1 : (ad.add (k * 4)).add 2 = ⟨(ad.add (k * 4)).block, (ad.add (k * 4)).off + 2, none⟩ := rfl
    rw [← e1, add_of_add]; exact hq.2.2.1
  · have e1 : (ad.add (k * 4)).add 3 = ⟨(ad.add (k * 4)).block, (ad.add (k * 4)).off + 3, none⟩ := rfl
    rw [← e1, add_of_add]; exact hq.2.2.2

theorem cells_int : Try.prog.cellsOf 3 = 1 := by kernel_rfl

theorem cells_bool : Try.prog.cellsOf 4 = 1 := by kernel_rfl

theorem cells_lst : Try.prog.cellsOf 62 = 2 := by kernel_rfl

theorem cells_len : Try.prog.cellsOf 64 = 4 := by kernel_rfl

theorem open_entries {H : Type} {enc : TypeId × Value → H} {w : World} {base : Nat} {spare : Nat → Bool} {held : Bool} {fuel : Nat} {v : Value} {x : DataW H × List MemPlace} (h : DataW.trod enc Try.prog w base spare held fuel 30 [v] = some x) :
    ∃ A n c zs, v = .slice A n c ∧ RdX w A n zs ∧ n ≤ maxLen := by
  rcases open_slice Try.underlying30 h with ⟨hcs, _⟩ | ⟨a, len, cap, m, n, D, Pl, hcs, _, hl, hm, hmm, _, hi⟩
  · injection hcs with hcs
    exact ⟨none, 0, 0, [], hcs, ⟨rfl, fun h => absurd h (by omega)⟩, by decide⟩
  · injection hcs with hcs
    have hlm : len ≤ m := by rw [hmm]; split <;> omega
    have each : ∀ i, i < len → ∃ e : En, w.cell? (a.add (i * 4)) = some (.int .i64 e.1) ∧ w.cell? (a.add (i * 4 + 1)) = some (.int .i64 e.2.1.1) ∧ w.cell? (a.add (i * 4 + 2)) = some (.int .i64 e.2.1.2) ∧ w.cell? (a.add (i * 4 + 3)) = some (.bool e.2.2) := by
      intro i hil
      obtain ⟨cs', h1, h2⟩ := hi i (by omega)
      rw [cells_len] at h1
      obtain ⟨_, hlen, hcell⟩ := World.cells?_some h1
      obtain ⟨xs, k, hk, hxy, _, hxl, hf⟩ := DataW.trod_struct Try.underlying64 h2
      match xs, hxl, cs', hlen with
      | [y0, y1, y2], _, [v0, v1, v2, v3], _ =>
        have g0 := hf 0 _ rfl
        have g1 := hf 1 _ rfl
        have g2 := hf 2 _ rfl
        simp only [cells_int, cells_bool, cells_lst, List.drop_succ_cons, List.drop_zero, List.take_succ_cons, List.take_zero, List.getElem?_cons_zero, List.getElem?_cons_succ] at g0 g1 g2
        obtain ⟨m0, f0, _, _⟩ := DataW.trod_int Try.underlying3 g0
        obtain ⟨m3, f3, _⟩ := DataW.trod_bool Try.underlying4 g2
        obtain ⟨zs, k', hk', hzy, _, hzl, hg⟩ := DataW.trod_struct Try.underlying62 g1
        match zs, hzl with
        | [z0, z1], _ =>
          have u0 := hg 0 _ rfl
          have u1 := hg 1 _ rfl
          simp only [cells_int, List.drop_succ_cons, List.drop_zero, List.take_succ_cons, List.take_zero, List.getElem?_cons_zero, List.getElem?_cons_succ] at u0 u1
          obtain ⟨m1, f1, _, _⟩ := DataW.trod_int Try.underlying3 u0
          obtain ⟨m2, f2, _, _⟩ := DataW.trod_int Try.underlying3 u1
          injection f0 with f0
          injection f1 with f1
          injection f2 with f2
          injection f3 with f3
          have e0 := hcell 0 (by omega)
          have e1 := hcell 1 (by omega)
          have e2 := hcell 2 (by omega)
          have e3 := hcell 3 (by omega)
          rw [add_add] at e0 e1 e2 e3
          refine ⟨(m0, (m1, m2), m3), ?_, ?_, ?_, ?_⟩
          · simpa [f0] using e0
          · simpa [f1] using e1
          · simpa [f2] using e2
          · simpa [f3] using e3
    obtain ⟨q, hq⟩ := choose_lt each
    refine ⟨some a, len, cap, (List.range len).map q, hcs, ⟨by simp, fun hn => ⟨a, rfl, ?_, fun j y hy => ?_⟩⟩, by omega⟩
    · have := World.block_lt_of_cell? w _ (hq 0 hn).1
      rwa [block_of_add] at this
    · have hj : j < len := by
        have := (List.getElem?_eq_some_iff.1 hy).1
        simpa using this
      rw [List.getElem?_map, List.getElem?_range hj] at hy
      simp only [Option.map_some, Option.some.injEq] at hy
      subst hy
      exact hq j hj
end Go.Proofs.Ytbgkinaoelicnaa
