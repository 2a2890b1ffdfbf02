/-
  What the frames of laws need whose rows list error variables: a named variable of the type error, read again behind the call; what such a variable holds. No condition.
-/
import Derived.Test.YtppdfgifnmfioaaDoorVwI
import Derived.Stop.LaidErr
import Derived.ProofKit
import Derived.OpenShut
import Derived.LaidMore
import Derived.Stop.Joined
namespace Go.Proofs.YtppdfgifnmfioaaDoor
open Go.RowKit Go.ChangeShapes Go.WideShapes
set_option linter.unusedSimpArgs false
set_option linter.unusedVariables false

theorem var_below {P : Program} {W W' : World} {n : String} {cs : Array Value} (h : W.var? P n = some cs) (hb : Below W.heap.size W W') : W'.var? P n = some cs := by
  unfold World.var? at h ⊢
  cases hg : P.globalNamed n with
  | none => simp [hg] at h
  | some g =>
    simp only [hg, Option.bind_some] at h ⊢
    have hlt : g < W.heap.size := by
      rcases Nat.lt_or_ge g W.heap.size with h' | h'
      · exact h'
      · simp [Array.getElem?_eq_none h'] at h
    rw [hb.block g hlt]
    exact h

theorem err_iface : ∃ ms, Tryd.prog.underlying 50 = some (.interface ms) := ⟨_, Tryd.underlying50⟩
/-- one variable of the type error, read again -/
theorem vars_again1 {H : Type} {enc : TypeId × Value → H} {W W' : World} {sp sp' : Nat → Bool} {n : String} {g : Nat} {gs : List (DataW H)} {q : List MemPlace}
    (hg : Tryd.prog.globalNamed n = some g) (ht : (Tryd.prog.globals[g]?).map (·.type) = some 50) (h : DataW.TrodVars enc Tryd.prog W sp [n] gs q) (hb : Below W.heap.size W W') :
    ∃ d q', gs = [d] ∧ DataW.TrodVars enc Tryd.prog W' sp' [n] [d] q' := by
  obtain ⟨ms, hi⟩ := err_iface
  obtain ⟨g0, t0, cs0, f0, d0, p0, rfl, hg0, ht0, hv0, hd0, -⟩ := trodVars_one h
  obtain rfl := Option.some.inj (hg.symm.trans hg0)
  obtain rfl := Option.some.inj (ht.symm.trans ht0)
  obtain ⟨x, rfl, hx, rfl, rfl, hc⟩ := token_of hg0 hi hv0 hd0
  exact ⟨_, _, rfl, vars_read1 enc hg ht hi (var_below hv0 hb) hx sp'⟩

theorem vars_again2 {H : Type} {enc : TypeId × Value → H} {W W' : World} {sp sp' : Nat → Bool} {n0 n1 : String} {g0 g1 : Nat} {gs : List (DataW H)} {q : List MemPlace}
    (hg0 : Tryd.prog.globalNamed n0 = some g0) (ht0 : (Tryd.prog.globals[g0]?).map (·.type) = some 50) (hg1 : Tryd.prog.globalNamed n1 = some g1) (ht1 : (Tryd.prog.globals[g1]?).map (·.type) = some 50)
    (h : DataW.TrodVars enc Tryd.prog W sp [n0, n1] gs q) (hb : Below W.heap.size W W') :
    ∃ d0 d1 q', gs = [d0, d1] ∧ DataW.TrodVars enc Tryd.prog W' sp' [n0, n1] [d0, d1] q' := by
  obtain ⟨ms, hi⟩ := err_iface
  obtain ⟨k0, t0, cs0, f0, d0, p0, k1, t1, cs1, f1, d1, p1, rfl, hk0, hy0, hv0, hd0, hk1, hy1, hv1, hd1, -⟩ := trodVars_two h
  obtain rfl := Option.some.inj (hg0.symm.trans hk0)
  obtain rfl := Option.some.inj (ht0.symm.trans hy0)
  obtain rfl := Option.some.inj (hg1.symm.trans hk1)
  obtain rfl := Option.some.inj (ht1.symm.trans hy1)
  obtain ⟨x0, rfl, hx0, rfl, rfl, hc0⟩ := token_of hk0 hi hv0 hd0
  obtain ⟨x1, rfl, hx1, rfl, rfl, hc1⟩ := token_of hk1 hi hv1 hd1
  exact ⟨_, _, _, rfl, vars_read2 enc hg0 ht0 hi (var_below hv0 hb) hx0 hg1 ht1 hi (var_below hv1 hb) hx1 sp'⟩

theorem vars_again3 {H : Type} {enc : TypeId × Value → H} {W W' : World} {sp sp' : Nat → Bool} {n0 n1 n2 : String} {g0 g1 g2 : Nat} {gs : List (DataW H)} {q : List MemPlace}
    (hg0 : Tryd.prog.globalNamed n0 = some g0) (ht0 : (Tryd.prog.globals[g0]?).map (·.type) = some 50) (hg1 : Tryd.prog.globalNamed n1 = some g1) (ht1 : (Tryd.prog.globals[g1]?).map (·.type) = some 50) (hg2 : Tryd.prog.globalNamed n2 = some g2) (ht2 : (Tryd.prog.globals[g2]?).map (·.type) = some 50)
    (h : DataW.TrodVars enc Tryd.prog W sp [n0, n1, n2] gs q) (hb : Below W.heap.size W W') :
    ∃ d0 d1 d2 q', gs = [d0, d1, d2] ∧ DataW.TrodVars enc Tryd.prog W' sp' [n0, n1, n2] [d0, d1, d2] q' := by
  obtain ⟨ms, hi⟩ := err_iface
  cases gs with
  | nil => simp [DataW.TrodVars] at h
  | cons d ds =>
    obtain ⟨k0, t0, cs0, f0, p0, q0, hk0, hy0, hv0, hd0, hs, e⟩ := h
    obtain rfl := Option.some.inj (hg0.symm.trans hk0)
    obtain rfl := Option.some.inj (ht0.symm.trans hy0)
    obtain ⟨x0, rfl, hx0, rfl, rfl, hc0⟩ := token_of hk0 hi hv0 hd0
    obtain ⟨d1, d2, q', rfl, h2⟩ := vars_again2 (sp' := sp') hg1 ht1 hg2 ht2 hs hb
    exact ⟨_, d1, d2, _, rfl, g0, 50, #[x0], 1, [], q', hg0, ht0, var_below hv0 hb, trod_held hi hx0 0, h2, rfl⟩

theorem es_star : "*" ++ "errors.errorString" = "*errors.errorString" := by decide

theorem es_row (u : TypeId) (h : Tryd.prog.typeName? 3 u = some "*errors.errorString") : u = 86 :=
  typeName_ptr_named (nm := "errors.errorString") (by rw [es_star]; kernel_rfl) (by kernel_rfl) (by decide) u (by rw [es_star]; exact h)

theorem es_cells : Tryd.prog.cellsOf 112 = 1 := by kernel_rfl

theorem st_cells : Tryd.prog.cellsOf 9 = 1 := by kernel_rfl
/-- the list's head: an error variable holds a pointer -/
theorem Sn.of {n : String} {text : List UInt8} {r : List (String × DataW Unit)} {W : World} {g : Nat} (h : laidMet Tryd.prog ((n, .iface "*errors.errorString" (.ptr (.agg [.lit (.string text)]))) :: r) W)
    (hg : Tryd.prog.globalNamed n = some g) (ht : (Tryd.prog.globals[g]?).map (·.type) = some 50) : ∃ a, Sn W g a := by
  obtain ⟨ms, hi⟩ := err_iface
  obtain ⟨a, s, hv, -⟩ := laid_sentinel h hg ht hi es_row Tryd.underlying86 Tryd.underlying112 rfl rfl Tryd.underlying9 es_cells st_cells
  exact ⟨a, by have := World.var?_cell hg hv 0; simpa [Sn, snV] using this⟩
end Go.Proofs.YtppdfgifnmfioaaDoor
