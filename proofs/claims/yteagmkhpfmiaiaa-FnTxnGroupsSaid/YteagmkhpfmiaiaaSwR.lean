/-
  The draw of a transaction alone: DrawTxnGroups. No condition.
-/
import Derived.Test.YteagmkhpfmiaiaaSwC
namespace Go.Proofs.Yteagmkhpfmiaiaa
open Go.RowKit
set_option linter.unusedVariables false
set_option linter.unusedSimpArgs false

/-- a transaction that was drawn -/
def DGroups (w : World) (e : Ending) (w' : World) : Prop :=
  ∃ (A1 A2 : Option Addr) (c1 c2 n1 n2 : Nat) (t : Tx), e = .returned (txV (.slice A1 n1 c1) t.need (.slice A2 n2 c2)) ∧ RdT w' A1 n1 A2 n2 t ∧ n1 ≤ 16 ∧ n2 ≤ 16 ∧ Below w.heap.size w w'

set_option maxRecDepth 100000 in
set_option maxHeartbeats 4000000 in
theorem DrawTxnGroups_any {a : Option Addr} {len cap : Nat} {cs : List Int} (w : World) (h : RowIs .u8 w a len cap cs) :
    Calls Try.prog 23 #[.slice a len cap] w (DGroups w) := by
  obtain ⟨w0, hw0⟩ : ∃ W, w.alloc (.cells #[.slice none 0 0, .int .i64 0, .slice none 0 0] 26) = W := ⟨_, rfl⟩
  have h0 := hid (show RowIs .u8 w0 a len cap cs by rw [← hw0]; exact h.allocV _)
  have hZ := hid (show Cs w0 w.heap.size 26 #[.slice none 0 0, .int .i64 0, .slice none 0 0] by rw [← hw0]; exact Cs.new _ _ _)
  have hB := hid (show Below w.heap.size w w0 by rw [← hw0]; exact below1 _ _)
  have hz := hid (show w.heap.size < w0.heap.size from hZ.out.lt)
  replace hw0 := hid hw0
  clear h
  go_enter Try.func23, Try.ntmps23
  go_upto_region 1 with (fail)
  rw [hw0.out]
  go_wp2_with fail
  refine (l6Open_any w0 h0.out).mono ?_
  rintro e w1 ⟨rfl, r1, hb1, hz1⟩
  have hgl2 := hid (show w0.heap.size < w1.heap.size by omega)
  have r2 := hid r1
  have hB2 := hid (hB.out.trans (hb1.mono (Nat.le_of_lt hz.out)))
  have hZ2 := hid (hZ.out.step hb1)
  clear h0 hz1 hb1 hB hZ r1
  go_wp2_with fail
  refine (l92Txn_any _ r2.out (by omega)).mono ?_
  rintro e w3 ⟨A1, A2, c1, c2, m, gs, xs, rfl, oi, op, hl1, hl2, hD⟩
  have hB3 := hid (hB2.out.grown hD.gr (by have := hgl2.out; have := hz.out; omega) (fun k e => by injection e with e; have := hz.out; omega))
  have hZ3 := hid (grown_cs hZ2.out hD.gr (fun e => by injection e with e; have := hz.out; omega))
  have oi := hid oi
  have op := hid op
  clear r2 hB2 hZ2 hD
  obtain ⟨n1, hn1⟩ : ∃ n, gs.length = n := ⟨_, rfl⟩
  obtain ⟨n2, hn2⟩ : ∃ n, xs.length = n := ⟨_, rfl⟩
  rw [hn1] at oi hl1
  rw [hn2] at op hl2
  rw [hn1, hn2]
  replace hn1 := hid hn1
  replace hn2 := hid hn2
  have hb1 := hid (show w.heap.size < w1.heap.size by have := hz.out; have := hgl2.out; omega)
  obtain ⟨WW, hWW⟩ : ∃ W, ((w3.setCell ⟨w.heap.size, 0, none⟩ (.slice A1 n1 c1)).setCell ⟨w.heap.size, 1, none⟩ (.int .i64 m)).setCell ⟨w.heap.size, 2, none⟩ (.slice A2 n2 c2) = W := ⟨_, rfl⟩
  have kZ := hid (show Cs WW w.heap.size 26 #[.slice A1 n1 c1, .int .i64 m, .slice A2 n2 c2] by rw [← hWW]; exact hZ3.out.set3T _ _ _)
  have kB := hid (show Below w.heap.size w WW by rw [← hWW]; exact ((hB3.out.setCell (p := ⟨w.heap.size, 0, none⟩) (Nat.le_refl _) _).setCell (p := ⟨w.heap.size, 1, none⟩) (Nat.le_refl _) _).setCell (p := ⟨w.heap.size, 2, none⟩) (Nat.le_refl _) _)
  have kS := hid (show WW.heap.size = w3.heap.size by rw [← hWW]; simp [World.setCell])
  have kR := hid (show RdI WW WW.heap.size A1 n1 gs by
    have hx := ((oi.out.setLow (p := ⟨w.heap.size, 0, none⟩) hb1.out (.slice A1 n1 c1)).setLow (p := ⟨w.heap.size, 1, none⟩) hb1.out (.int .i64 m)).setLow (p := ⟨w.heap.size, 2, none⟩) hb1.out (.slice A2 n2 c2)
    rw [hWW] at hx
    obtain ⟨A', c', e, hr⟩ := hx.cut hn1.out
    injection e with e1 e2 e3
    subst e1
    exact hr)
  have kP := hid (show RdP WW A2 n2 xs by
    have hx := ((op.out.setLow (p := ⟨w.heap.size, 0, none⟩) hb1.out (.slice A1 n1 c1)).setLow (p := ⟨w.heap.size, 1, none⟩) hb1.out (.int .i64 m)).setLow (p := ⟨w.heap.size, 2, none⟩) hb1.out (.slice A2 n2 c2)
    rw [hWW] at hx
    obtain ⟨A', c', e, hr, -⟩ := hx.form
    injection e with e1 e2 e3
    subst e1
    rw [hn2.out] at hr
    exact hr)
  obtain ⟨z0, z1, z2⟩ := hZ3.out.tri
  obtain ⟨f0, f1, f2⟩ := hZ3.out.triF
  obtain ⟨y0, y1, y2⟩ := kZ.out.tri
  subst hWW
  clear hZ3 hB3 oi op hgl2
  go_wp2
  exact bodyPost_ret (v := txV (.slice A1 n1 c1) m (.slice A2 n2 c2)) (by simp [results, Try.results23, go_sem, y0, y1, y2]) rfl ⟨A1, A2, c1, c2, n1, n2, ⟨gs, m, xs⟩, rfl, ⟨kR.out, kP.out, by omega, by omega⟩, hl1, hl2, kB.out⟩
end Go.Proofs.Yteagmkhpfmiaiaa
