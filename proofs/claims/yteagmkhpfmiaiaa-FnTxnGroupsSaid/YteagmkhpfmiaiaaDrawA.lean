/-
  The draws of sets: l6Open, l91Set, DrawGroupsValid, DrawGroupsCommon: they return slices of ints of their own. No condition (l6Open reads at most 2000 bytes).
-/
import Derived.Test.YteagmkhpfmiaiaaRead
import Derived.Test.YteagmkhpfmiaiaaMgA
import Derived.Deep.DeepCutAuto
namespace Go.Proofs.Yteagmkhpfmiaiaa
open Go.RowKit

theorem grown_below {w wr w' : World} {row : Option Nat} (h : w.grownBy wr row) (hb : Below w.heap.size wr w') : w.grownBy w' row :=
  ⟨hb.os.trans h.os, hb.tape.trans h.tape, hb.output.trans h.output, Nat.le_trans h.size hb.size, fun i hi hne => (hb.block i hi).trans (h.block i hi hne)⟩

theorem grown_quiet {w wr w' : World} {row : Option Nat} (h : w.grownBy wr row) (hq : Qt wr w') : w.grownBy w' row := grown_below h (hq.below _)

theorem OwI.pick {w w' : World} {lo g : Nat} {v : Value} {zs : List Int} (h : OwI w lo v zs) (hg : w.grownBy w' (some g)) (hl : g < lo) : OwI w' lo v zs :=
  own_of_block h fun k hk => hg.block k (h.lt k hk).2 (fun e => by
    have e' : k = g := by injection e
    have := (h.lt k hk).1
    omega)

theorem Rdr.lowB {w : World} {B g P : Nat} (h : Rdr w B g P) : B ≤ g := by
  obtain ⟨A, n, c, p, bs, hh, hr, hb, hn, hp, hg⟩ := h
  exact hg

/-- the reader that l6Open makes -/
def OpenPost (w : World) (e : Ending) (w' : World) : Prop :=
  e = .returned (.pointer (some ⟨w.heap.size, 0, none⟩)) ∧ Rdr w' w.heap.size w.heap.size 0 ∧ Below w.heap.size w w' ∧ w'.heap.size = w.heap.size + 1

theorem open_world {w : World} {a : Option Addr} {len cap : Nat} {zs : List Int} (h : RowIs .u8 w a len cap zs) (n : Nat) (hn : n ≤ len) (h2 : n ≤ 2000) (c : Nat) :
    OpenPost w (.returned (.pointer (some ⟨w.heap.size, 0, none⟩))) (w.alloc (.cells #[.slice a n c, .int .i64 0] 82)) := by
  refine ⟨rfl, ⟨a, n, c, 0, zs.take n, heap_alloc_new w _, ?_, ?_, h2, Nat.le_refl _, Nat.le_refl _⟩, (Below.refl _ _).alloc (Nat.le_refl _) _, by simp⟩
  · rcases h with ⟨rfl, rfl, rfl, rfl⟩ | ⟨x, rfl, hl, hm, hz, hc, _⟩
    · obtain rfl : n = 0 := by omega
      exact Reads.none_
    · have h1 : (zs.take n).length = n := by rw [List.length_take]; omega
      refine ⟨by simpa [bytes] using h1, fun hn0 => ⟨x, rfl, ?_, fun j u hu => ?_⟩⟩
      · have := World.block_lt_of_cell? w (x.add 0) (hc 0 (by omega))
        rwa [block_of_add] at this
      · have hj : j < n := by
          have := (List.getElem?_eq_some_iff.1 hu).1
          rw [bytes, List.length_map, h1] at this; exact this
        have h3 : j < zs.length := by omega
        have h4 : w.cell? (x.add j) = some (.int .u8 (zs.getD j 0)) := hc j h3
        have hb : (x.add j).block < w.heap.size := World.block_lt_of_cell? w _ h4
        rw [World.cell?_alloc_lt w _ _ hb, h4, ← hu]
        simp [bytes, hj, h3]
  · intro b hb
    rcases h with ⟨rfl, rfl, rfl, rfl⟩ | ⟨x, rfl, hl, hm, hz, hc, hw⟩
    · simp at hb
    · have := hw b (List.mem_of_mem_take hb)
      have h2 := this
      simp [Lit.wf, IntKind.min, IntKind.max, IntKind.signed, IntKind.bits] at h2
      omega

set_option maxHeartbeats 1000000 in
theorem l6Open_any {a : Option Addr} {len cap : Nat} {zs : List Int} (w : World) (h : RowIs .u8 w a len cap zs) :
    Calls Try.prog 41 #[.slice a len cap] w (OpenPost w) := by
  have hlc : len ≤ cap := by rcases h with ⟨rfl, rfl, rfl, rfl⟩ | ⟨x, rfl, hl, _⟩ <;> omega
  have hcm : cap ≤ 9223372036854775807 := by
    rcases h with ⟨rfl, rfl, rfl, rfl⟩ | ⟨x, rfl, hl, hm, _⟩
    · omega
    · unfold maxLen at hm; omega
  by_cases hb : 2000 < len
  · have hfin := hid (open_world h 2000 (by omega) (by omega) cap)
    have h' := hid h
    clear h
    go_enter Try.func41, Try.ntmps41
    go_wp2
    go_ret
    exact hfin.out
  · have hfin := hid (open_world h len (by omega) (by omega) cap)
    clear h
    go_enter Try.func41, Try.ntmps41
    go_wp2
    go_ret
    exact hfin.out

def SetPost (B g P : Nat) (w : World) (e : Ending) (w' : World) : Prop :=
  ∃ (v : Value) (zs : List Int), e = .returned v ∧ OwI w' w.heap.size v zs ∧ zs.length ≤ 6 ∧ Rdr w' B g (P + 8) ∧ w.grownBy w' (some g)

theorem OwI.cut0 {w : World} {lo n c : Nat} {A : Option Addr} {zs : List Int} (h : OwI w lo (.slice A n c) zs) : OwI w lo (.slice A 0 c) [] := by
  refine ⟨by simp, ?_⟩
  rcases h.2 with ⟨e, h0⟩ | ⟨g, cap, cur, e, hl, hg, hn, hc, hs, ht⟩
  · injection e with e1 e2 e3
    subst e1; subst e2; subst e3
    exact .inl ⟨rfl, rfl⟩
  · injection e with e1 e2 e3
    subst e1; subst e3
    exact .inr ⟨g, c, cur, rfl, hl, hg, by simp, hc, hs, by simp⟩

def DrawOne (w : World) (e : Ending) (w' : World) : Prop :=
  ∃ (v : Value) (zs : List Int), e = .returned v ∧ OwI w' w.heap.size v zs ∧ zs.length ≤ 6 ∧ Below w.heap.size w w'

def DrawTwo (w : World) (e : Ending) (w' : World) : Prop :=
  ∃ (v u : Value) (xs ys : List Int), e = .returned (.tuple #[v, u]) ∧ OwI w' w.heap.size v xs ∧ OwI w' w.heap.size u ys ∧ xs.length ≤ 6 ∧ ys.length ≤ 6 ∧ Below w.heap.size w w'

end Go.Proofs.Yteagmkhpfmiaiaa
