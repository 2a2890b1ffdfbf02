/-
  The draw of a state and a transaction: DrawTxnApply. No condition.
-/
import Derived.Test.YteagmkhpfmiaiaaSwB
namespace Go.Proofs.Yteagmkhpfmiaiaa
open Go.RowKit
set_option linter.unusedVariables false
set_option linter.unusedSimpArgs false

theorem RowIs.allocV {k : IntKind} {w : World} {a : Option Addr} {len cap : Nat} {zs : List Int} (h : RowIs k w a len cap zs) (o : Obj) : RowIs k (w.alloc o) a len cap zs := by
  rcases h with h | ⟨x, rfl, hl, hm, hz, hc, hw⟩
  · exact .inl h
  · exact .inr ⟨x, rfl, hl, hm, hz, fun i hi => (World.cell?_alloc_lt w o _ (World.block_lt_of_cell? w _ (hc i hi))).trans (hc i hi), hw⟩
/-- a state and a transaction that were drawn -/
def DApply (w : World) (e : Ending) (w' : World) : Prop :=
  ∃ (A A1 A2 : Option Addr) (c c1 c2 n n1 n2 : Nat) (zs : List Int) (t : Tx), e = .returned (.tuple #[.slice A n c, txV (.slice A1 n1 c1) t.need (.slice A2 n2 c2)]) ∧ RdI w' w'.heap.size A n zs ∧ n ≤ 15 ∧ InB zs ∧ RdT w' A1 n1 A2 n2 t ∧ n1 ≤ 16 ∧ n2 ≤ 16 ∧ Below w.heap.size w w'

set_option maxRecDepth 100000 in
set_option maxHeartbeats 4000000 in
theorem DrawTxnApply_any {a : Option Addr} {len cap : Nat} {cs : List Int} (w : World) (h : RowIs .u8 w a len cap cs) :
    Calls Try.prog 18 #[.slice a len cap] w (DApply w) := by
  obtain ⟨w0, hw0⟩ : ∃ W, w.alloc (.cells #[.slice none 0 0, .int .i64 0, .slice none 0 0] 26) = W := ⟨_, rfl⟩
  have h0 := hid (show RowIs .u8 w0 a len cap cs by rw [← hw0]; exact h.allocV _)
  have hZ := hid (show Cs w0 w.heap.size 26 #[.slice none 0 0, .int .i64 0, .slice none 0 0] by rw [← hw0]; exact Cs.new _ _ _)
  have hB := hid (show Below w.heap.size w w0 by rw [← hw0]; exact below1 _ _)
  have hz := hid (show w.heap.size < w0.heap.size from hZ.out.lt)
  replace hw0 := hid hw0
  clear h
  go_enter Try.func18, Try.ntmps18
  go_upto_region 1 with (fail)
  rw [hw0.out]
  go_wp2_with fail
  refine (l6Open_any w0 h0.out).mono ?_
  rintro e w1 ⟨rfl, r1, hb1, hz1⟩
  have hgl := hid (show w0.heap.size < w1.heap.size by omega)
  have r1 := hid r1
  have hB1 := hid (hB.out.trans (hb1.mono (Nat.le_of_lt hz.out)))
  have hZ1 := hid (hZ.out.step hb1)
  clear h0 hz1 hb1 hB hZ
  go_wp2_with fail
  refine (l92State_any _ r1.out (by omega)).mono ?_
  rintro e w2 ⟨A, c, zs, rfl, ho, hl, hin, hD⟩
  have hgl2 := hid (show w0.heap.size < w2.heap.size from Nat.lt_of_lt_of_le hgl.out hD.size)
  have ho := hid ho
  have r2 := hid hD.rd
  have hB2 := hid (hB1.out.grown hD.gr (by have := hgl.out; have := hz.out; omega) (fun k e => by injection e with e; have := hz.out; omega))
  have hZ2 := hid (grown_cs hZ1.out hD.gr (fun e => by injection e with e; have := hz.out; omega))
  have hs12 := hid hD.size
  clear r1 hB1 hZ1 hD
  go_wp2_with fail
  refine (l92Txn_any _ r2.out (by omega)).mono ?_
  rintro e w3 ⟨A1, A2, c1, c2, m, gs, xs, rfl, oi, op, hl1, hl2, hD⟩
  have ho3 := hid (ho.out.pick hD.gr hgl.out)
  have hB3 := hid (hB2.out.grown hD.gr (by have := hgl2.out; have := hz.out; omega) (fun k e => by injection e with e; have := hz.out; omega))
  have hZ3 := hid (grown_cs hZ2.out hD.gr (fun e => by injection e with e; have := hz.out; omega))
  have hs23 := hid hD.size
  have oi := hid oi
  have op := hid op
  clear r2 hB2 hZ2 hD ho
  obtain ⟨n, hn⟩ : ∃ n, zs.length = n := ⟨_, rfl⟩
  obtain ⟨n1, hn1⟩ : ∃ n, gs.length = n := ⟨_, rfl⟩
  obtain ⟨n2, hn2⟩ : ∃ n, xs.length = n := ⟨_, rfl⟩
  rw [hn] at ho3 hl
  rw [hn1] at oi hl1
  rw [hn2] at op hl2
  rw [hn, hn1, hn2]
  replace hn := hid hn
  replace hn1 := hid hn1
  replace hn2 := hid hn2
  have hb0 := hid (show w.heap.size < w1.heap.size by have := hz.out; have := hgl.out; omega)
  have hb1 := hid (show w.heap.size < w2.heap.size by have := hz.out; have := hgl2.out; omega)
  obtain ⟨WW, hWW⟩ : ∃ W, ((w3.setCell ⟨w.heap.size, 0, none⟩ (.slice A1 n1 c1)).setCell ⟨w.heap.size, 1, none⟩ (.int .i64 m)).setCell ⟨w.heap.size, 2, none⟩ (.slice A2 n2 c2) = W := ⟨_, rfl⟩
  have kZ := hid (show Cs WW w.heap.size 26 #[.slice A1 n1 c1, .int .i64 m, .slice A2 n2 c2] by rw [← hWW]; exact hZ3.out.set3T _ _ _)
  have kB := hid (show Below w.heap.size w WW by rw [← hWW]; exact ((hB3.out.setCell (p := ⟨w.heap.size, 0, none⟩) (Nat.le_refl _) _).setCell (p := ⟨w.heap.size, 1, none⟩) (Nat.le_refl _) _).setCell (p := ⟨w.heap.size, 2, none⟩) (Nat.le_refl _) _)
  have kS := hid (show WW.heap.size = w3.heap.size by rw [← hWW]; simp [World.setCell])
  have kI := hid (show RdI WW WW.heap.size A n zs by
    have hx := ((ho3.out.setLow (p := ⟨w.heap.size, 0, none⟩) hb0.out (.slice A1 n1 c1)).setLow (p := ⟨w.heap.size, 1, none⟩) hb0.out (.int .i64 m)).setLow (p := ⟨w.heap.size, 2, none⟩) hb0.out (.slice A2 n2 c2)
    rw [hWW] at hx
    obtain ⟨A', c', e, hr⟩ := hx.cut hn.out
    injection e with e1 e2 e3
    subst e1
    exact hr)
  have kR := hid (show RdI WW WW.heap.size A1 n1 gs by
    have hx := ((oi.out.setLow (p := ⟨w.heap.size, 0, none⟩) hb1.out (.slice A1 n1 c1)).setLow (p := ⟨w.heap.size, 1, none⟩) hb1.out (.int .i64 m)).setLow (p := ⟨w.heap.size, 2, none⟩) hb1.out (.slice A2 n2 c2)
    rw [hWW] at hx
    obtain ⟨A', c', e, hr⟩ := hx.cut hn1.out
    injection e with e1 e2 e3
    subst e1
    exact hr)
  have kP := hid (show RdP WW A2 n2 xs by
    have hx := ((op.out.setLow (p := ⟨w.heap.size, 0, none⟩) hb1.out (.slice A1 n1 c1)).setLow (p := ⟨w.heap.size, 1, none⟩) hb1.out (.int .i64 m)).setLow (p := ⟨w.heap.size, 2, none⟩) hb1.out (.slice A2 n2 c2)
    rw [hWW] at hx
    obtain ⟨A', c', e, hr, -⟩ := hx.form
    injection e with e1 e2 e3
    subst e1
    rw [hn2.out] at hr
    exact hr)
  obtain ⟨z0, z1, z2⟩ := hZ3.out.tri
  obtain ⟨f0, f1, f2⟩ := hZ3.out.triF
  obtain ⟨y0, y1, y2⟩ := kZ.out.tri
  subst hWW
  clear ho3 hZ3 hB3 oi op hgl hgl2 hs12 hs23
  go_wp2
  exact bodyPost_ret (v := .tuple #[.slice A n c, txV (.slice A1 n1 c1) m (.slice A2 n2 c2)]) (by simp [results, Try.results18, go_sem, y0, y1, y2]) rfl ⟨A, A1, A2, c, c1, c2, n, n1, n2, zs, ⟨gs, m, xs⟩, rfl, kI.out, hl, hin, ⟨kR.out, kP.out, by omega, by omega⟩, hl1, hl2, kB.out⟩
end Go.Proofs.Yteagmkhpfmiaiaa
