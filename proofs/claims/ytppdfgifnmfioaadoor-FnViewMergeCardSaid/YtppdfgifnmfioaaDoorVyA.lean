/-
  The laws' helpers over views: sameView, hasInt, sameInts. No condition but lengths below 2^40.
-/
import Derived.Test.YtppdfgifnmfioaaDoorVdB
import Derived.Test.YtppdfgifnmfioaaDoorVyM
import Derived.Test.YtppdfgifnmfioaaDoorVwF
import Derived.Test.YtppdfgifnmfioaaDoorVwG
namespace Go.Proofs.YtppdfgifnmfioaaDoor
open Go.RowKit
set_option linter.unusedVariables false
set_option linter.unusedSimpArgs false

theorem sameB_selfY (zs : List Int) : sameB zs zs = true := by simp [sameB]

theorem hasInt_asV {B n c : Nat} {A : Option Addr} {zs : List Int} {x : Int} {r : Bool} (h : hasB zs x = r) (w : World) (hr : RdI w B A n zs) (hn : n < 1099511627776) :
    Calls Tryd.prog 17 #[.slice A n c, .int .i64 x] w fun e w' => e = .returned (.bool r) ∧ w = w' := by
  subst h; exact hasInt_any x w hr hn

set_option maxHeartbeats 4000000 in
theorem sameView_same {m c c' : Nat} {A A' : Option Addr} {zs : List Int} (n : Int) (w : World) (hx : RdI w w.heap.size A m zs) (hy : RdI w w.heap.size A' m zs) (hm : m < 1099511627776) :
    Calls Tryd.prog 16 #[vwV n (.slice A m c), vwV n (.slice A' m c')] w fun e w' => e = .returned (.bool true) ∧ Below w.heap.size w w' := by
  obtain ⟨W, hW⟩ : ∃ W, (w.alloc (.cells #[.int .i64 n, .slice A m c] 25)).alloc (.cells #[.int .i64 n, .slice A' m c'] 25) = W := ⟨_, rfl⟩
  have B := hid (show Below w.heap.size w W by rw [← hW]; exact below2 w _ _)
  have C0 := hid (show Cs W w.heap.size 25 #[.int .i64 n, .slice A m c] by rw [← hW]; exact (Cs.new w _ _).alloc _)
  have C1 := hid (show Cs W (w.heap.size + 1) 25 #[.int .i64 n, .slice A' m c'] by rw [← hW]; exact Cs.new' _ _ _ (by simp))
  have X := hid (Reads.below hx B.out)
  have Y := hid (Reads.below hy B.out)
  have hne : (n == n) = true := by simp
  replace hW := hid hW
  clear hx hy
  obtain ⟨d0, d1, -, -⟩ := C0.out.two
  obtain ⟨e0, e1, -, -⟩ := C1.out.two
  go_enter Tryd.func16, Tryd.ntmps16
  go_upto_region 1 with (fail)
  rw [hW.out]
  go_wp2_with (go_at_call 22; (refine (sameInts_any _ X.out Y.out hm hm).mono ?_); rw [sameB_selfY]; rintro e w2 ⟨rfl, hq⟩; have hq' := hid (hq.below W.heap.size); clear hq)
  go_ret
  exact ⟨by simp, B.out.trans (hq'.out.mono B.out.size)⟩
/-- what a call that makes a view hands back, laid open -/
def VX' (on : Int) (oz : List Int) (ok : Bool) (w : World) (e : Ending) (w' : World) : Prop := ∃ A c, e = .returned (.tuple #[vwV on (.slice A oz.length c), .bool ok]) ∧ OwI w' w.heap.size (.slice A oz.length c) oz ∧ Below w.heap.size w w'

theorem VPost.x' {r : Vr} {on : Int} {oz : List Int} {ok : Bool} (hr : r = ((on, oz), ok)) {w : World} {e : Ending} {w' : World} (h : VPost r w e w') : VX' on oz ok w e w' := by
  subst hr; exact h

theorem Lv.capY {w : World} {lo hi n c : Nat} {A : Option Addr} {zs : List Int} (h : Lv w lo hi (.slice A n c) zs) : n ≤ c ∧ c ≤ 9223372036854775807 := (OwI.capV h.1.1).2

theorem vwR_lenY {n : Int} {zs : List Int} {on : Int} {oz : List Int} {ok : Bool} (h : vwR n zs = ((on, oz), ok)) : oz.length ≤ 8 := by
  unfold vwR at h
  split at h
  · rename_i hv
    injection h with h _
    injection h with _ h
    rw [← h]; exact (vwB_true.1 hv).2.2.len
  · injection h with h _
    injection h with _ h
    rw [← h]; simp

theorem joinR_lenY {n x : Int} {zs : List Int} {on : Int} {oz : List Int} {ok : Bool} (h : joinR n zs x = ((on, oz), ok)) : oz.length ≤ 8 := by
  unfold joinR at h
  split at h
  · exact vwR_lenY h
  · injection h with h _
    injection h with _ h
    rw [← h]; simp

theorem leaveR_lenY {n x : Int} {zs : List Int} {on : Int} {oz : List Int} {ok : Bool} (h : leaveR n zs x = ((on, oz), ok)) : oz.length ≤ 8 := by
  unfold leaveR at h
  split at h
  · exact vwR_lenY h
  · injection h with h _
    injection h with _ h
    rw [← h]; simp

theorem RowIs.len_leY {k : IntKind} {w : World} {a : Option Addr} {len cap : Nat} {zs : List Int} (h : RowIs k w a len cap zs) : len ≤ 9223372036854775807 := by
  rcases h with ⟨rfl, rfl, rfl, rfl⟩ | ⟨x, rfl, hl, hm, _⟩
  · omega
  · unfold maxLen at hm; omega

theorem Qt.cellY {w w' : World} {p : Addr} {v : Option Value} (h : Qt w w') (hc : w.cell? p = v) : w'.cell? p = v := by
  obtain ⟨q, rfl⟩ := h
  exact hc

theorem cell_belowY {w w' : World} {p : Addr} {v : Value} (h : Below w.heap.size w w') (hc : w.cell? p = some v) : w'.cell? p = some v :=
  (h.cell (World.block_lt_of_cell? w _ hc)).trans hc
/-- forget how a world came about -/
theorem pick_worldY {F S : World → Prop} {W : World} (h : S W) (k : ∀ U, S U → F U) : F W := k W h

theorem RdI.emptyY (w : World) (B : Nat) (A : Option Addr) : RdI w B A 0 [] := ⟨rfl, fun h => absurd h (Nat.lt_irrefl 0)⟩
end Go.Proofs.YtppdfgifnmfioaaDoor
