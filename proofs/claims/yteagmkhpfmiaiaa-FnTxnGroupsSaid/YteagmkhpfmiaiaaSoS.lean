/-
  A range over a function whose arguments to yield are known ahead, one row for each round: what the iterator promises, what the caller owes. At the fence that asks nothing. The round is asked at the k-th arguments alone.
-/
import Derived.Test.YteagmkhpfmiaiaaKp
import Derived.RangeFuncNested
import Derived.RangeFuncBound
import Derived.RangeFuncCalls
import Derived.RangeFuncLeaves
import Derived.Shelf.Abstract
import Derived.Shelf.RegionOpen
import Derived.OwnWalkIn
import Derived.TacticsInMore
import Derived.LoopNIn
import Derived.LoopIn
import Derived.Maps.AppendAt
import Derived.Deep.RegionHeld3
namespace Go.Proofs.Yteagmkhpfmiaiaa
open Go.RowKit Go.Shelf

/-- the blocks below n0 lie as they lay, but for block e -/
def KeepX (n0 e : Nat) (W W' : World) : Prop := W.heap.size ≤ W'.heap.size ∧ ∀ k, k < n0 → k ≠ e → W'.heap[k]? = W.heap[k]?
section
variable {n0 e : Nat} {W W' W'' : World}

theorem KeepX.refl (n0 e : Nat) (W : World) : KeepX n0 e W W := ⟨Nat.le_refl _, fun _ _ _ => rfl⟩

theorem KeepX.trans (h : KeepX n0 e W W') (k : KeepX n0 e W' W'') : KeepX n0 e W W'' := ⟨Nat.le_trans h.1 k.1, fun i h1 h2 => (k.2 i h1 h2).trans (h.2 i h1 h2)⟩

theorem KeepX.of_below (h : Below n0 W W') : KeepX n0 e W W' := ⟨h.size, fun k hk _ => h.block k hk⟩

theorem KeepX.cell (h : KeepX n0 e W W') {p : Addr} (h1 : p.block < n0) (h2 : p.block ≠ e) : W'.cell? p = W.cell? p := World.cell?_of_block (h.2 _ h1 h2)

theorem KeepX.grown {row : Option Nat} (h : KeepX n0 e W W') (hg : W'.grownBy W'' row) (hn : n0 ≤ W'.heap.size) (hr : ∀ k, row = some k → n0 ≤ k ∨ k = e) : KeepX n0 e W W'' :=
  ⟨Nat.le_trans h.1 hg.size, fun k h1 h2 => (hg.block k (by omega) (fun he => by have := hr k he.symm; omega)).trans (h.2 k h1 h2)⟩

theorem KeepX.alloc (h : KeepX n0 e W W') (hn : n0 ≤ W'.heap.size) (o : Obj) : KeepX n0 e W (W'.alloc o) := h.grown (World.grownBy_alloc W' o none) hn (fun _ h => by cases h)

theorem KeepX.setCell (h : KeepX n0 e W W') {p : Addr} (hp : n0 ≤ p.block ∨ p.block = e) (u : Value) : KeepX n0 e W (W'.setCell p u) :=
  ⟨Nat.le_trans h.1 (KeepsWalks.setCell W' p u).size, fun k h1 h2 => (Below.heap_setCell W' p u k (fun he => by subst he; omega)).trans (h.2 k h1 h2)⟩

theorem KeepX.drew (h : KeepX n0 e W W') : KeepX n0 e W W'.drew := h

theorem KeepX.reads {B n : Nat} {A : Option Addr} {zs : List Int} (h : KeepX n0 e W W') (hr : RdI W B A n zs) (h1 : B ≤ n0) (h2 : B ≤ e) : RdI W' B A n zs := hr.keep fun p hp => h.cell (by omega) (by omega)
end

/-- the iterator's word: called in a later world, it calls yield with 'args 0', 'args 1', .. in turn, until a round says 'no more' or N have come -/
def SeqN (n g : Nat) (lb : Array Value) (args : Nat → Array Value) (N n0 e : Nat) (w : World) : Prop :=
  ∀ (l : Nat) (J Jx : Nat → World → Prop) (W : World), Below w.heap.size w W →
    (∀ k W1, k < N → J k W1 → YieldAt Fence.wide (n - 1) Try.prog l (args k) W1 fun r W' => (r = .returned (.bool true) ∧ J (k + 1) W' ∧ KeepX n0 e W1 W') ∨ (r = .returned (.bool false) ∧ Jx (k + 1) W')) →
    J 0 W → CallsIn Fence.wide n Try.prog g (#[.func (.yield l) #[] #[]] ++ lb) W fun e W' => (∃ v, e = .returned v) ∧ (J N W' ∨ ∃ k, k < N ∧ Jx (k + 1) W')

/-- how a round may end: it goes on, or it returns from the function -/
def RoundEnd (B n0 e : Nat) (I Ix : Nat → World → Prop) (k : Nat) (W : World) : Exit → Act → World → Prop
  | .normal, _, W' => KeepsFrom B W W' ∧ KeepX n0 e W W' ∧ I (k + 1) W'
  | .ret, _, W' => KeepsFrom B W W' ∧ Ix (k + 1) W'
  | _, _, _ => False

theorem wpIn_rangeN {g : Operand} {ps : Array Tmp} {assign body : Code} {Q : Exit → Act → World → Prop} {a : Act} {w : World} {n gf N n0 e : Nat} {lb : Array Value} {args : Nat → Array Value}
    (hg : a.eval g = .func (.func gf) #[] lb) (eg : Enters Try.prog gf) (hseq : SeqN (n - 1) gf lb args N n0 e w) (hn0 : n0 ≤ w.heap.size) (hps : ∀ k, (args k).size = ps.size)
    (I Ix : Nat → World → Prop) (hI : OwnFrom w.heap.size I) (hIx : OwnFrom w.heap.size Ix) (h0 : I 0 w)
    (Ax : Nat → Act → World → Prop) (hAx : ∀ k a', OwnFrom w.heap.size (fun (_ : Unit) W => Ax k a' W))
    (hassign : ∀ (k l : Nat) (W : World) (K : Act → World → Prop), k < N → I k W → (∀ a' W', KeepsFrom w.heap.size W W' → KeepX n0 e W W' → I k W' → Ax k a' W' → K a' W') →
      assign.wpIn (Fence.wide.inRound l) (n - 1 - 1) Try.prog (Exit.then K (fun _ _ _ => False)) { tmps := (ps.zip (args k)).foldl (fun t (p, v) => t.setIfInBounds p v) a.tmps, defers := [] } W)
    (hbody : ∀ (k l : Nat) (a' : Act) (W : World), k < N → I k W → Ax k a' W → body.wpIn (Fence.wide.inRound l) (n - 1 - 1) Try.prog (RoundEnd w.heap.size n0 e I Ix k W) a' W)
    (hdone : ∀ (D : Nat) (W : World), w.heap.size ≤ D → I N W → W.heap[D]? = some (.deferred (some [])) → Q .normal { a with defers := { target := .collected D, args := #[] } :: a.defers } W)
    (hstop : ∀ (D k : Nat) (W : World), w.heap.size ≤ D → k < N → Ix (k + 1) W → W.heap[D]? = some (.deferred (some [])) → Q .ret { a with defers := { target := .collected D, args := #[] } :: a.defers } W) :
    (Code.rangeFunc g ps assign body).wpIn Fence.wide n Try.prog Q a w := by
  refine wpIn_rangeFunc fun fn hfn => ?_
  -- the two blocks that the statement lays: the deferred calls' at d, the record at d + 1
  obtain ⟨d, hd⟩ : ∃ d, w.heap.size = d := ⟨_, rfl⟩
  obtain ⟨mkRec, hrec⟩ : ∃ mkRec : LoopState → Option Code → Loop, mkRec = fun st pe => { state := st, pending := pe, fn, tmps := a.tmps, params := ps, assign, body, defers := d } := ⟨_, rfl⟩
  obtain ⟨W0, hW0⟩ : ∃ W0, (w.alloc (.deferred (some []))).alloc (.loop (mkRec .ready none)) = W0 := ⟨_, rfl⟩
  have hBw : Below d w W0 := by
    rw [← hW0, ← hd]; exact ((Below.refl _ w).alloc (Nat.le_refl _) _).alloc (by simp) _
  -- what lies between two rounds
  let T : (LoopState → Option Code → Prop) → World → Prop := fun p W => (∃ st pe, p st pe ∧ W.heap[d + 1]? = some (.loop (mkRec st pe))) ∧ W.heap[d]? = some (.deferred (some []))
  have hT0 : W0.heap[d + 1]? = some (.loop (mkRec .ready none)) ∧ W0.heap[d]? = some (.deferred (some [])) := by
    rw [← hW0, ← hd]
    refine ⟨?_, (Below.heap_alloc _ _ _ (by simp)).trans (World.alloc_heap_new w _)⟩
    have := World.alloc_heap_new (w.alloc (.deferred (some []))) (.loop (mkRec .ready none))
    rwa [World.size_alloc] at this
  rw [hd] at hI hIx hAx hdone hstop hbody hassign hn0
  have turn : ∀ {W : World} {o : Obj} (o' : Obj), W.heap[d + 1]? = some o → W.heap[d]? = some (.deferred (some [])) → (W.putObj (d + 1) o').heap[d + 1]? = some o' ∧ (W.putObj (d + 1) o').heap[d]? = some (.deferred (some [])) ∧ KeepX n0 e W (W.putObj (d + 1) o') := fun o' h1 h2 =>
    ⟨World.putObj_heap_same (Array.getElem?_eq_some_iff.1 h1).1, (World.putObj_heap_other (by omega)).trans h2,
      (KeepX.refl n0 e _).grown (grownBy_putObj' _ _ o') (by have := (Array.getElem?_eq_some_iff.1 h2).1; omega) (fun k e => by injection e; omega)⟩
  refine ⟨d + 1, [{ target := .collected d, args := #[] }], W0, { target := .fn (.func gf) lb, args := #[.func (.yield (d + 1)) #[] #[]] }, W0, gf, #[.func (.yield (d + 1)) #[] #[]] ++ lb, W0, ?_, ?_, fun _ _ => trivial, ?_, (fun h => by cases h), ?_⟩
  · rw [← hW0, hrec, ← hd]; exact run_enterLoop_outer _ _ _ _ _
  · simp only [resolve, hg]; simp [go_sem]
  · simp only [Enters] at eg
    simp [invoke, go_sem, eg]
  · refine (hseq (d + 1) (fun k W => I k W ∧ W.heap[d + 1]? = some (.loop (mkRec .ready none)) ∧ W.heap[d]? = some (.deferred (some [])))
      (fun k W => Ix k W ∧ W.heap[d + 1]? = some (.loop (mkRec .done (some .ret))) ∧ W.heap[d]? = some (.deferred (some []))) W0 (by rw [hd]; exact hBw) ?_ ⟨?_, hT0⟩).mono ?_
    · rintro k W1 hk ⟨hi, hl, hq⟩
      have hy := run_yield (P := Try.prog) (args := args k) hl (by rw [hrec]; exact hps k)
      rw [hrec] at hy
      refine ⟨fn, _, assign, body, hy, roundIn_of_wpIn hfn (hassign k (d + 1) W1 _ hk hi fun a' W' hkf hbl hi' hax => ?_)⟩
      have hl' := hkf.same _ _ (by omega) hl rfl
      have hq' := hkf.same _ _ (Nat.le_refl _) hq rfl
      refine ⟨_, run_beginRound hl' (by rw [hrec]), ?_⟩
      obtain ⟨t1, t2, t3⟩ := turn (.loop { mkRec .ready none with state := .busy }) hl' hq'
      refine wpIn_mono (hbody k (d + 1) a' _ hk (hI.putObj _ hi' (by omega) hl' rfl) ((hAx k a').putObj (s := ()) _ hax (by omega) hl' rfl)) ?_
      rintro ex a3 W3 hp
      cases ex with
      | normal =>
        obtain ⟨k3, b3, i3⟩ := hp
        have hl3 := k3.same _ _ (by omega) t1 rfl
        have hq3 := k3.same _ _ (Nat.le_refl _) t2 rfl
        have hr := run_endRound (P := Try.prog) none hl3
        obtain ⟨u1, u2, u3⟩ := turn (.loop (mkRec .ready none)) hl3 hq3
        rw [hrec] at hr u1
        exact ⟨_, _, hr, .inl ⟨rfl, ⟨hI.putObj _ i3 (by omega) hl3 rfl, by rw [hrec]; exact u1, by rw [hrec] at u2; exact u2⟩, by rw [hrec] at u3; exact hbl.trans (t3.trans (b3.trans u3))⟩⟩
      | ret =>
        obtain ⟨k3, i3⟩ := hp
        have hl3 := k3.same _ _ (by omega) t1 rfl
        have hq3 := k3.same _ _ (Nat.le_refl _) t2 rfl
        have hr := run_endRound (P := Try.prog) (some .ret) hl3
        obtain ⟨u1, u2, _⟩ := turn (.loop (mkRec .done (some .ret))) hl3 hq3
        rw [hrec] at hr u1
        exact ⟨_, _, hr, .inr ⟨rfl, hIx.putObj _ i3 (by omega) hl3 rfl, by rw [hrec]; exact u1, by rw [hrec] at u2; exact u2⟩⟩
      | exit id => exact hp.elim
      | goto t => exact hp.elim
      | panic ch => exact hp.elim
      | outgrown => exact hp.elim
    · rw [← hW0]; exact hI.alloc _ (hI.alloc _ h0)
    · rintro r W2 ⟨⟨v, rfl⟩, (⟨hi, hl, hq⟩ | ⟨k, hk, hi, hl, hq⟩)⟩
      · have hr := run_endLoop (P := Try.prog) hl (by rw [hrec]; simp)
        rw [hrec] at hr
        exact ⟨none, _, hr, hdone _ _ (Nat.le_refl _) (hI.putObj _ hi (by omega) hl rfl) ((World.putObj_heap_other (by omega)).trans hq)⟩
      · have hr := run_endLoop (P := Try.prog) hl (by rw [hrec]; simp)
        rw [hrec] at hr
        exact ⟨some .ret, _, hr, wpIn_ret (hstop _ k _ (Nat.le_refl _) hk (hIx.putObj _ hi (by omega) hl rfl) ((World.putObj_heap_other (by omega)).trans hq))⟩

/-! ### a region that draws its order, within a round -/
theorem wpOpIn_of {l n i : Nat} {ops : Array Oper} {Q : Exit → Act → World → Prop} {K K' : Act → World → Prop} {a : Act} {w : World} (hQ : ¬ LetsOut Q)
    (hd : ∀ (j : Nat) (o : Oper) (c : Call), ops[j]? = some o → o.op ≠ .defer c)
    (hK : ∀ a w, K a w → K' a w) (h : wpOp Try.prog ops Q i K a w) : wpOpIn (Fence.wide.inRound l) n Try.prog ops Q i K' a w := by
  unfold wpOp at h
  unfold wpOpIn
  cases ho : ops[i]? with
  | none => simp only [ho] at h ⊢; exact hK _ _ h
  | some o =>
    simp only [ho] at h ⊢
    split
    · rename_i hw
      simp only [hw, if_true] at h
      rcases h with h | h
      · refine ⟨fun _ _ => trivial, ?_⟩
        rw [show (Fence.wide.inRound l).round = some l from rfl, Oper.semAt_some l _ o (fun c => hd i o c ho)]
        unfold Oper.wp at h
        generalize (execOp a.eval o).run Try.prog w = r at *
        cases r with
        | ok x w' =>
          cases x <;> simp only [Oper.upon, Oper.uponIn] at h ⊢
          case value v => exact hK _ _ h
          case skip => exact hK _ _ h
          case defer d => exact hK _ _ h
          case enter f args =>
            refine ⟨(fun h => by cases h), ?_⟩
            refine (callsIn_wide (n := n - 1)).2 (h.mono fun e w'' he => ?_)
            cases e with
            | returned v => exact hK _ _ he
            | panicked c => exact he
            | outgrown => exact he
          case row row args =>
            refine ⟨(fun h => by cases h), fun c cs _ => ?_⟩
            obtain ⟨v, w'', he, hs⟩ := h c cs
            exact ⟨v, w'', hK _ _ he, stepsIn_wide.2 hs⟩
        | halt x w' => cases x <;> simp only [Oper.upon, Oper.uponIn] at h ⊢ <;> exact h
      · exact (hQ h.2).elim
    · rename_i hw
      simp only [hw] at h
      exact ⟨fun _ _ => trivial, hK _ _ h⟩

theorem wpAnyIn_of {l n : Nat} {ops : Array Oper} {Q : Exit → Act → World → Prop} {md : Region.Mode} (hQ : ¬ LetsOut Q) (hd : ∀ (j : Nat) (o : Oper) (c : Call), ops[j]? = some o → o.op ≠ .defer c) :
    ∀ (fuel : Nat) (listed : Array Bool) (a : Act) (w : World), wpAny Try.prog md ops Q fuel listed a w → wpAnyIn (Fence.wide.inRound l) n Try.prog md ops Q fuel listed a w
  | 0, _, _, _, h => h
  | fuel + 1, _, _, _, h => ⟨h.1, fun i hi => wpOpIn_of hQ hd (fun a w => wpAnyIn_of hQ hd fuel _ a w) (h.2 i hi)⟩

def noDefer (ops : Array Oper) : Bool := ops.all fun o => match o.op with | .defer _ => false | _ => true

theorem noDefer_at {ops : Array Oper} (h : noDefer ops = true) (j : Nat) (o : Oper) (c : Call) (ho : ops[j]? = some o) : o.op ≠ .defer c := fun e => by
  rw [noDefer, Array.all_eq_true] at h
  obtain ⟨hj, e2⟩ := Array.getElem?_eq_some_iff.1 ho
  have := h j hj
  rw [e2, e] at this
  cases this

theorem wpIn_region_held {l n id : Nat} {ops : Array Oper} {Q : Exit → Act → World → Prop} {a : Act} {w : World} {S : World → Prop} (hQ : ¬ LetsOut Q) (hd : noDefer ops = true) (hm : Try.prog.follows .mixedOrders = true) (hS : S w.drew)
    (h : S w.drew → wpAnyH Try.prog .any ops Q S ops.size (Array.replicate ops.size false) a w.drew) : (Code.region id ops true).wpIn (Fence.wide.inRound l) n Try.prog Q a w :=
  wpIn_region_any hm (wpAnyIn_of hQ (noDefer_at hd) _ _ _ _ (wpAny_of_held _ _ _ _ (h hS)))
end Go.Proofs.Yteagmkhpfmiaiaa
