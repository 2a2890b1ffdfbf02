/-
  Contract of the program's search and of its cycle through a message. No condition.
-/
import Derived.Test.YtdhafappclcijaaTpD
import Derived.Test.YtdhafappclcijaaTpG
import Derived.Test.YtdhafappclcijaaTpM
import Derived.ArgAppend
namespace Go.Proofs.Ytdhafappclcijaa
open Go.RowKit
set_option linter.unusedVariables false
set_option linter.unusedSimpArgs false

/-! ### where each message was reached from -/
def rO (P : Nat → Nat) (R : Nat → Option Nat) (k : Nat) : Option Addr := (R k).map fun x => ⟨P x, 0, none⟩

theorem rO_some {P : Nat → Nat} {R : Nat → Option Nat} {k x : Nat} (h : R k = some x) : rO P R k = some ⟨P x, 0, none⟩ := by simp [rO, h]

theorem rO_none {P : Nat → Nat} {R : Nat → Option Nat} {k : Nat} (h : R k = none) : rO P R k = none := by simp [rO, h]

abbrev rV (P : Nat → Nat) (R : Nat → Option Nat) (k : Nat) : Value := .pointer (rO P R k)

abbrev rfC (P : Nat → Nat) (R : Nat → Option Nat) : Array Value := #[rV P R 0, rV P R 1, rV P R 2, rV P R 3, rV P R 4, rV P R 5, rV P R 6, rV P R 7, rV P R 8, rV P R 9, rV P R 10, rV P R 11]

theorem rfC_get {P : Nat → Nat} {R : Nat → Option Nat} {k : Nat} (hk : k < 12) : (rfC P R)[k]? = some (rV P R k) := by
  rcases twelve hk with rfl | rfl | rfl | rfl | rfl | rfl | rfl | rfl | rfl | rfl | rfl | rfl <;> rfl

theorem rfC_set {P : Nat → Nat} {R : Nat → Option Nat} {k x : Nat} (hk : k < 12) : (rfC P R).setIfInBounds k (.pointer (some ⟨P x, 0, none⟩)) = rfC P (upR R k x) := by
  have ho : ∀ j, j ≠ k → rO P R j = rO P (upR R k x) j := fun j hj => by simp [rO, upR_other hj]
  have hs : rO P (upR R k x) k = some ⟨P x, 0, none⟩ := rO_some upR_same
  rcases twelve hk with rfl | rfl | rfl | rfl | rfl | rfl | rfl | rfl | rfl | rfl | rfl | rfl <;> simp [rfC, rV, ho, hs]

abbrev Rf (w : World) (b : Nat) (P : Nat → Nat) (R : Nat → Option Nat) : Prop := Cs w b 42 (rfC P R)

theorem Rf.at_ {w : World} {b : Nat} {P : Nat → Nat} {R : Nat → Option Nat} (h : Rf w b P R) {k : Nat} (hk : k < 12) : w.cell? ⟨b, k, none⟩ = some (rV P R k) := by rw [Cs.cell h]; exact rfC_get hk

theorem Rf.put {w : World} {b : Nat} {P : Nat → Nat} {R : Nat → Option Nat} (h : Rf w b P R) {k : Nat} (hk : k < 12) (x : Nat) : Rf (w.setCell ⟨b, k, none⟩ (.pointer (some ⟨P x, 0, none⟩))) b P (upR R k x) := by
  have h2 := Cs.set h k (.pointer (some ⟨P x, 0, none⟩))
  rw [rfC_set hk] at h2
  exact h2

theorem Rf.all {w : World} {b : Nat} {P : Nat → Nat} {R : Nat → Option Nat} (h : Rf w b P R) :
    w.cell? ⟨b, 0, none⟩ = some (rV P R 0) ∧ w.cell? ⟨b, 1, none⟩ = some (rV P R 1) ∧ w.cell? ⟨b, 2, none⟩ = some (rV P R 2) ∧ w.cell? ⟨b, 3, none⟩ = some (rV P R 3) ∧
    w.cell? ⟨b, 4, none⟩ = some (rV P R 4) ∧ w.cell? ⟨b, 5, none⟩ = some (rV P R 5) ∧ w.cell? ⟨b, 6, none⟩ = some (rV P R 6) ∧ w.cell? ⟨b, 7, none⟩ = some (rV P R 7) ∧
    w.cell? ⟨b, 8, none⟩ = some (rV P R 8) ∧ w.cell? ⟨b, 9, none⟩ = some (rV P R 9) ∧ w.cell? ⟨b, 10, none⟩ = some (rV P R 10) ∧ w.cell? ⟨b, 11, none⟩ = some (rV P R 11) := by
  have c := Cs.cell h
  exact ⟨c 0, c 1, c 2, c 3, c 4, c 5, c 6, c 7, c 8, c 9, c 10, c 11⟩
/-- how many places of a block are empty -/
def unB (w : World) (b : Nat) : Nat := ((List.range 12).map fun k => match w.cell? ⟨b, k, none⟩ with | some (.pointer none) => 1 | _ => 0).sum

theorem unB_eq {w : World} {b : Nat} {P : Nat → Nat} {R : Nat → Option Nat} (h : Rf w b P R) : unB w b = nnR R := by
  unfold unB nnR
  congr 1
  refine List.map_congr_left fun k hk => ?_
  rw [Rf.at_ h (by simpa using hk)]
  cases hr : R k <;> simp [rV, rO, hr]

/-! ### the line -/
def psV (P : Nat → Nat) (Q : List Nat) : List Value := Q.map fun x => .pointer (some ⟨P x, 0, none⟩)
/-- a line of messages, from somewhere in a row of the call's own -/
def OwQ (w : World) (lo : Nat) (v : Value) (P : Nat → Nat) (Q : List Nat) : Prop :=
  ∃ (b off c : Nat) (cur : Array Value), v = .slice (some ⟨b, off, none⟩) Q.length c ∧ lo ≤ b ∧ Cs w b 40 cur ∧ Q.length ≤ c ∧ c ≤ 9223372036854775807 ∧ off + c ≤ cur.size ∧ ∀ j u, (psV P Q)[j]? = some u → cur[off + j]? = some u

theorem info_ptr : (Try.prog.info? 40).map (fun i => (i.zero, i.size, i.bytes)) = some (some (.pointer none), 1, 8) := by kernel_rfl
section
variable {w w' : World} {lo : Nat} {v : Value} {P : Nat → Nat} {Q : List Nat}

theorem OwQ.kp {S : Nat → Prop} (h : OwQ w lo v P Q) (hk : Kp S w w') (hS : ∀ b, v.ownBlock = some b → ¬ S b) : OwQ w' lo v P Q := by
  obtain ⟨b, off, c, cur, e, h1, h2, h3⟩ := h
  exact ⟨b, off, c, cur, e, h1, h2.kp hk (hS b (by rw [e]; rfl)), h3⟩

theorem OwQ.step (h : OwQ w lo v P Q) (hb : Below w.heap.size w w') : OwQ w' lo v P Q := by
  obtain ⟨b, off, c, cur, e, h1, h2, h3⟩ := h
  exact ⟨b, off, c, cur, e, h1, h2.step hb, h3⟩

theorem OwQ.apart (h : OwQ w lo v P Q) {b : Nat} {T : TypeId} {cs : Array Value} (k : Cs w b T cs) (hT : T ≠ 40) : v.ownBlock ≠ some b := by
  obtain ⟨b', off, c, cur, rfl, h1, h2, h3⟩ := h
  intro e
  injection e with e
  simp only at e
  subst e
  unfold Cs at k h2
  rw [k] at h2
  injection h2 with h2
  injection h2 with _ h2
  exact hT h2

theorem OwQ.lit (w : World) {b : Nat} (hb : w.heap.size = b) (x : Nat) : OwQ (w.alloc (.cells #[.pointer (some ⟨P x, 0, none⟩)] 40)) b (.slice (some ⟨b, 0, none⟩) 1 1) P [x] := by
  subst hb
  refine ⟨_, 0, 1, _, rfl, Nat.le_refl _, Cs.new w _ _, by simp, by omega, by simp, fun j u hj => ?_⟩
  rw [Nat.zero_add, ← Array.getElem?_toList]
  exact hj

theorem OwQ.form (h : OwQ w lo v P Q) : ∃ b off c, v = .slice (some ⟨b, off, none⟩) Q.length c ∧ Q.length ≤ c ∧ c ≤ 9223372036854775807 := by
  obtain ⟨b, off, c, cur, e, h1, h2, h3, h4, _⟩ := h
  exact ⟨b, off, c, e, h3, h4⟩

theorem OwQ.head {x b off c n : Nat} (h : OwQ w lo (.slice (some ⟨b, off, none⟩) n c) P (x :: Q)) : w.cell? ⟨b, off, none⟩ = some (.pointer (some ⟨P x, 0, none⟩)) := by
  obtain ⟨b', off', c', cur, e, h1, h2, h3, h4, h5, h6⟩ := h
  injection e with e e1 e2
  injection e with e
  injection e with e3 e4
  subst e3; subst e4
  rw [h2.cell]
  exact h6 0 _ rfl

theorem OwQ.tail {x b off c n : Nat} (h : OwQ w lo (.slice (some ⟨b, off, none⟩) n c) P (x :: Q)) :
    ∃ off', (∀ W, (Instr.sliceAt 65 (.slice (some ⟨b, off, none⟩) n c) (some (.int .i64 1)) none none).run Try.prog W = .ok (.slice (some ⟨b, off', none⟩) Q.length (c - 1)) W) ∧ OwQ w lo (.slice (some ⟨b, off', none⟩) Q.length (c - 1)) P Q := by
  obtain ⟨b', off', c', cur, e, h1, h2, h3, h4, h5, h6⟩ := h
  injection e with e e1 e2
  injection e with e
  injection e with e3 e4
  subst e1; subst e2; subst e3; subst e4
  simp only [List.length_cons] at h3
  have hq : (x :: Q).length - 1 = Q.length := by simp
  refine ⟨if c = 1 then off else off + 1, fun W => ?_, b, _, c - 1, cur, rfl, h1, h2, by omega, by omega, ?_, fun j u hj => ?_⟩
  · rw [run_sliceAt_slice (P := Try.prog) W 65 _ _ _ _ (by kernel_rfl), run_slice_l (P := Try.prog) W 65 _ _ _ (by kernel_rfl) _ _ (by omega) (by simp; omega)]
    rw [show (sizeOf (Try.prog.elem 65)).run Try.prog W = .ok 1 W from by kernel_rfl]
    by_cases e : c = 1
    · subst e
      simp [Result.andThen, sliced]
    · simp [Result.andThen, sliced, e, Addr.add]
  · split <;> omega
  · by_cases e : c = 1
    · have : Q.length = 0 := by omega
      have hq0 : Q = [] := List.eq_nil_of_length_eq_zero this
      subst hq0; simp [psV] at hj
    · rw [if_neg e, Nat.add_assoc, Nat.add_comm 1 j]
      exact h6 (j + 1) u (by simpa [psV] using hj)
end

/-- one pointer appended to the line: 'queue = append(queue, next)'. The literal's block lies already. -/
theorem wpList_appQ {w : World} {ops : Array Oper} {rest : List Oper} {o : Oper} {a : Act} {Q' : Exit → Act → World → Prop} (hgd : o.guard = none) (s x : Operand)
    (ho : o.op = .call { callee := .builtin .append, args := #[s, x], argTypes := #[65, 65] })
    (lo : Nat) (P : Nat → Nat) (y : Nat) (v : Value) (Q : List Nat) (hs : a.eval s = v) (hx : a.eval x = .slice (some ⟨w.heap.size, 0, none⟩) 1 1) (hown : OwQ w lo v P Q) (hlo : lo ≤ w.heap.size) (hn : Q.length < 1099511627776)
    (h : ∀ v' w', OwQ w' lo v' P (Q ++ [y]) → Kp (fun b => v.ownBlock = some b) w w' → wpList Try.prog ops Q' rest (a.put o.dst v') w') :
    wpList Try.prog ops Q' (o :: rest) a (w.alloc (.cells #[.pointer (some ⟨P y, 0, none⟩)] 40)) := by
  obtain ⟨b, off, c, cur, rfl, h1, h2, h3, h4, h5, h6⟩ := hown
  obtain ⟨i0, hi, hz0, hz1, hz2⟩ := info_parts info_ptr
  obtain ⟨W, hW⟩ : ∃ W, w.alloc (.cells #[.pointer (some ⟨P y, 0, none⟩)] 40) = W := ⟨_, rfl⟩
  have hC : Cs W b 40 cur := by rw [← hW]; exact h2.alloc _
  have hL : Cs W w.heap.size 40 #[.pointer (some ⟨P y, 0, none⟩)] := by rw [← hW]; exact Cs.new w _ _
  have hK : Kp (fun x => (Value.slice (some ⟨b, off, none⟩) Q.length c).ownBlock = some x) w W := by rw [← hW]; exact (Kp.refl _ w).alloc _
  have hlen : (psV P Q).length = Q.length := by simp [psV]
  have happ : psV P (Q ++ [y]) = psV P Q ++ [.pointer (some ⟨P y, 0, none⟩)] := by simp [psV]
  rw [hW]
  refine wpList_append_arg (P := Try.prog) W hgd s x 65 ho 40 i0 (.pointer none) 1 8 (by kernel_rfl) hi hz0 hz1 hz2 rfl (by decide) b off Q.length c (psV P Q) hs (by rw [hlen, Nat.mul_one]) (fun j u hj => by rw [hC.cell]; exact h6 j u hj)
    ⟨w.heap.size, 0, none⟩ 1 1 [.pointer (some ⟨P y, 0, none⟩)] hx rfl (fun j u hj => by
      match j, hj with
      | 0, hj => simp at hj; subst hj; rw [show (⟨w.heap.size, 0, none⟩ : Addr).add 0 = ⟨w.heap.size, 0, none⟩ from rfl, hL.cell]; rfl) (fun u hu => by simp at hu; subst hu; rfl)
    (fun hr j hj => by
      simp at hj; subst hj
      refine ⟨by rw [hC.cell, Array.getElem?_eq_getElem (by omega)]; rfl, hC.frozen _⟩) (by unfold maxLen; omega) (by omega) (fun hr => ?_) (fun hg v' w' ho' hg' => ?_)
  · refine h _ _ ⟨b, off, c, cur.setIfInBounds (off + Q.length * 1) (.pointer (some ⟨P y, 0, none⟩)), by simp, h1, ?_, by simp; omega, h4, by simp; omega, fun j u hj => ?_⟩ ?_
    · exact hC.set _ _
    · rw [Nat.mul_one, Array.getElem?_setIfInBounds]
      rw [happ] at hj
      rcases Nat.lt_or_ge j Q.length with hl | hl
      · rw [List.getElem?_append_left (by omega)] at hj
        rw [if_neg (by omega)]
        exact h6 j u hj
      · rw [List.getElem?_append_right (by omega), hlen] at hj
        have hj0 : j = Q.length := by
          have := (List.getElem?_eq_some_iff.1 hj).1
          simp at this; omega
        subst hj0
        rw [if_pos rfl, if_pos (by omega)]
        simpa using hj
    · exact hK.setCell (p := ⟨b, off + Q.length * 1, none⟩) (.inr rfl) _
  · obtain ⟨g, cap, cur', rfl, q1, q2, q3, q4, q5, q6⟩ : ∃ g cap cur', v' = .slice (some ⟨g, 0, none⟩) (Q.length + 1) cap ∧ W.heap.size ≤ g ∧ w'.heap[g]? = some (.cells cur' 40 (0, 0)) ∧ Q.length + 1 ≤ cap ∧ cap ≤ maxLen ∧ cur'.size = cap * 1 ∧ cur'.toList.take ((Q.length + 1) * 1) = psV P Q ++ [.pointer (some ⟨P y, 0, none⟩)] := by
      rcases ho'.2 with ⟨_, h0⟩ | h0
      · omega
      · exact h0
    have hWz := hK.size
    refine h _ _ ⟨g, 0, cap, cur', by simp, by omega, q2, by simp; omega, by simp only [maxLen] at q4; omega, by omega, fun j u hj => ?_⟩ (hK.grown hg' (fun k e => by cases e))
    rw [Nat.zero_add, ← Array.getElem?_toList]
    rw [happ, ← q6, Nat.mul_one] at hj
    have hjl : j < Q.length + 1 := by
      have := (List.getElem?_eq_some_iff.1 hj).1
      rw [List.length_take] at this; omega
    rwa [List.getElem?_take_of_lt hjl] at hj

theorem fin12R {w : World} {b : Nat} {cs : Array Value} (h : Cs w b 42 cs) (hn : cs.size = 12) (P : Nat → Nat) (R : Nat → Option Nat) :
    ∃ W, ((((((((((((w.setCell ⟨b, 0, none⟩ (rV P R 0)).setCell ⟨b, 1, none⟩ (rV P R 1)).setCell ⟨b, 2, none⟩ (rV P R 2)).setCell ⟨b, 3, none⟩ (rV P R 3)).setCell ⟨b, 4, none⟩ (rV P R 4)).setCell ⟨b, 5, none⟩ (rV P R 5)).setCell ⟨b, 6, none⟩ (rV P R 6)).setCell ⟨b, 7, none⟩ (rV P R 7)).setCell ⟨b, 8, none⟩ (rV P R 8)).setCell ⟨b, 9, none⟩ (rV P R 9)).setCell ⟨b, 10, none⟩ (rV P R 10)).setCell ⟨b, 11, none⟩ (rV P R 11)) = W ∧ Rf W b P R ∧ Kp (fun x => x = b) w W := by
  refine ⟨_, rfl, ?_, ?_⟩
  · obtain ⟨x⟩ := cs
    simp only [List.size_toArray] at hn
    match x, hn, h with
    | [x0, x1, x2, x3, x4, x5, x6, x7, x8, x9, x10, x11], _, h => exact h.set12 (rV P R 0) (rV P R 1) (rV P R 2) (rV P R 3) (rV P R 4) (rV P R 5) (rV P R 6) (rV P R 7) (rV P R 8) (rV P R 9) (rV P R 10) (rV P R 11)
  · exact ((((((((((((Kp.refl (fun x => x = b) w).setCell (p := ⟨b, 0, none⟩) (.inr rfl) _).setCell (p := ⟨b, 1, none⟩) (.inr rfl) _).setCell (p := ⟨b, 2, none⟩) (.inr rfl) _).setCell (p := ⟨b, 3, none⟩) (.inr rfl) _).setCell (p := ⟨b, 4, none⟩) (.inr rfl) _).setCell (p := ⟨b, 5, none⟩) (.inr rfl) _).setCell (p := ⟨b, 6, none⟩) (.inr rfl) _).setCell (p := ⟨b, 7, none⟩) (.inr rfl) _).setCell (p := ⟨b, 8, none⟩) (.inr rfl) _).setCell (p := ⟨b, 9, none⟩) (.inr rfl) _).setCell (p := ⟨b, 10, none⟩) (.inr rfl) _).setCell (p := ⟨b, 11, none⟩) (.inr rfl) _
/-- what search hands back -/
def SrPost (nx : Int → Int → Bool) (f : Nat) (P : Nat → Nat) (D : Nat → Bool) (w : World) (e : Ending) (w' : World) : Prop :=
  ∃ R, e = .returned (.agg (rfC P R)) ∧ ((R f = none ∧ pathB nx (f : Int) = []) ∨ S2 nx f R) ∧ (∀ k x, k < 12 → R k = some x → x < 12 ∧ D x = true) ∧ Below w.heap.size w w'

set_option maxHeartbeats 4000000 in
theorem search_any {w : World} {lo f : Nat} {P : Nat → Nat} {D : Nat → Bool} {bf : Nat → Nat → Bool} {nx : Int → Int → Bool} (hg : Gr w lo P D bf (fun a b => nx (a : Int) (b : Int))) (hf : f < 12) (df : D f = true) :
    Calls Try.prog 51 #[.pointer (some ⟨P f, 0, none⟩)] w (SrPost nx f P D w) := by
  obtain ⟨W0, hW0⟩ : ∃ W0, (((w.alloc (.cells lkZ 42)).alloc (.cells lkZ 42)).alloc (.cells #[.pointer (some ⟨P f, 0, none⟩)] 40)) = W0 := ⟨_, rfl⟩
  have hB0 := hid (show Below w.heap.size w W0 by rw [← hW0]; exact below3 w _ _ _)
  have hR0 := hid (show Cs W0 w.heap.size 42 lkZ by rw [← hW0]; exact ((Cs.new w _ _).alloc _).alloc _)
  have hF0 := hid (show Rf W0 (w.heap.size + 1) P (fun _ => none) by rw [← hW0]; exact (Cs.new' _ _ _ (by simp)).alloc _)
  have hQ0 := hid (show OwQ W0 (w.heap.size + 2) (.slice (some ⟨w.heap.size + 1 + 1, 0, none⟩) 1 1) P [f] by rw [← hW0]; exact OwQ.lit (P := P) _ (by simp) f)
  have hz0 : w.heap.size + 2 < W0.heap.size := by rw [← hW0]; simp
  have hG := hid hg
  replace hW0 := hid hW0
  clear hg
  go_enter Try.func51, Try.ntmps51
  go_wp2
  rw [hW0.out]
  clear hW0
  go_loopw [4] (fun v wr => ∃ (Q : List Nat) (R : Nat → Option Nat), Hid (Sst nx f Q R) ∧ Hid (OwQ wr (w.heap.size + 2) v P Q) ∧ Hid (Rf wr (w.heap.size + 1) P R) ∧ Hid (∀ k x, k < 12 → R k = some x → x < 12 ∧ D x = true) ∧ Hid (∀ x ∈ Q, x < 12 ∧ D x = true) ∧ Hid (Below (w.heap.size + 1) W0 wr) ∧ w.heap.size + 2 < wr.heap.size ∧ Hid (Q.length + nnR R ≤ 13)) (fun v wr => slLenT v + unB wr (w.heap.size + 1))
  case atStart => exact ⟨[f], _, hid (Sst.start hf), hQ0, hF0, hid (fun k x _ h => by cases h), hid (fun x hx => by simp at hx; subst hx; exact ⟨hf, df⟩), hid (Below.refl _ _), hz0, hid (nnR_start f)⟩
  case round =>
    clear hQ0 hF0
    obtain ⟨Q, R, hS, hQ, hF, hRr, hQr, hB, hz, hM⟩ := hrel
    obtain ⟨b, off, c, rfl, hc1, hc2⟩ := hQ.out.form
    obtain ⟨nq, hnq⟩ : ∃ nq, Q.length = nq := ⟨_, rfl⟩
    rw [hnq] at hQ hc1 ⊢
    replace hnq := hid hnq
    cases Q with
    | nil =>
      have hend := hid (hS.out.end_)
      have hRk := hid (Cs.below hR0.out hB.out (by omega))
      obtain ⟨c0, c1, c2, c3, c4, c5, c6, c7, c8, c9, c10, c11⟩ := Rf.all hF.out
      obtain ⟨WF, hWF, hLF, hKF⟩ := fin12R hRk.out rfl P R
      have z0 : wr.cell? ⟨w.heap.size, 0, none⟩ = some (.pointer none) := hRk.out.cell 0
      have z1 : wr.cell? ⟨w.heap.size, 1, none⟩ = some (.pointer none) := hRk.out.cell 1
      have z2 : wr.cell? ⟨w.heap.size, 2, none⟩ = some (.pointer none) := hRk.out.cell 2
      have z3 : wr.cell? ⟨w.heap.size, 3, none⟩ = some (.pointer none) := hRk.out.cell 3
      have z4 : wr.cell? ⟨w.heap.size, 4, none⟩ = some (.pointer none) := hRk.out.cell 4
      have z5 : wr.cell? ⟨w.heap.size, 5, none⟩ = some (.pointer none) := hRk.out.cell 5
      have z6 : wr.cell? ⟨w.heap.size, 6, none⟩ = some (.pointer none) := hRk.out.cell 6
      have z7 : wr.cell? ⟨w.heap.size, 7, none⟩ = some (.pointer none) := hRk.out.cell 7
      have z8 : wr.cell? ⟨w.heap.size, 8, none⟩ = some (.pointer none) := hRk.out.cell 8
      have z9 : wr.cell? ⟨w.heap.size, 9, none⟩ = some (.pointer none) := hRk.out.cell 9
      have z10 : wr.cell? ⟨w.heap.size, 10, none⟩ = some (.pointer none) := hRk.out.cell 10
      have z11 : wr.cell? ⟨w.heap.size, 11, none⟩ = some (.pointer none) := hRk.out.cell 11
      have f0 := hRk.out.frozen 0
      have f1 := hRk.out.frozen 1
      have f2 := hRk.out.frozen 2
      have f3 := hRk.out.frozen 3
      have f4 := hRk.out.frozen 4
      have f5 := hRk.out.frozen 5
      have f6 := hRk.out.frozen 6
      have f7 := hRk.out.frozen 7
      have f8 := hRk.out.frozen 8
      have f9 := hRk.out.frozen 9
      have f10 := hRk.out.frozen 10
      have f11 := hRk.out.frozen 11
      have hBF := hid ((hB0.out.trans (hB.out.mono (by omega))).trans (hKF.base (B := w.heap.size) (by omega) (fun i e => by omega)))
      replace hWF := hid hWF
      replace hLF := hid hLF
      obtain rfl : nq = 0 := hnq.out.symm
      clear hB hKF hB0 hRk hS hQ
      go_wp2
      rw [hWF.out]
      clear hWF z0 z1 z2 z3 z4 z5 z6 z7 z8 z9 z10 z11 c0 c1 c2 c3 c4 c5 c6 c7 c8 c9 c10 c11 f0 f1 f2 f3 f4 f5 f6 f7 f8 f9 f10 f11
      obtain ⟨Y0, Y1, Y2, Y3, Y4, Y5, Y6, Y7, Y8, Y9, Y10, Y11⟩ := Rf.all hLF.out
      refine bodyPost_ret (v := .agg (rfC P R)) (by simp [results, Try.results51, go_sem, Y0, Y1, Y2, Y3, Y4, Y5, Y6, Y7, Y8, Y9, Y10, Y11]) rfl ⟨R, rfl, hend.out, hRr.out, hBF.out⟩
    | cons x Q =>
      have hx12 := (hQr.out x (by simp)).1
      have dx := (hQr.out x (by simp)).2
      have hcx := hQ.out.head
      obtain ⟨off', hsl, hQt⟩ := hQ.out.tail
      have hrow := hid (hS.out.row)
      have hGr := hid (hG.out.step (hB0.out.trans (hB.out.mono (by omega))))
      obtain ⟨c0, c1, c2, c3, c4, c5, c6, c7, c8, c9, c10, c11⟩ := hGr.out.all_a hx12 dx
      have hQr2 := hid (fun y (hy : y ∈ Q) => hQr.out y (by simp [hy]))
      have hun := hid (unB_eq hF.out)
      have hq1 : Hid (nq = Q.length + 1) := hid hnq.out.symm
      have hql : (0 : Int) < (nq : Int) := by have := hq1.out; omega
      have hqn : decide (0 < nq) = true := by have := hq1.out; simp; omega
      have hqi : decide ((0 : Int) < (nq : Int)) = true := by simp; omega
      replace hQt := hid hQt
      clear hS hQ hQr
      go_wp2
      clear hc1
      clear c0 c1 c2 c3 c4 c5 c6 c7 c8 c9 c10 c11 hcx hsl
      have hafx : ∀ (k : Nat), k < 12 → ∀ W, (Instr.index 42 (.agg (lkC P (fun b => nx (x : Int) (b : Int)))) (.int .i64 (k : Int))).run Try.prog W = .ok (pV P (fun b => nx (x : Int) (b : Int)) k) W := fun k hk W => run_index_links hk P _ W
      replace hafx := hid hafx
      have hN : Hid (Q.length + nnR R = Q.length + unB wr (w.heap.size + 1)) := hid (by rw [hun.out])
      have hM2 : Hid (Q.length + unB wr (w.heap.size + 1) ≤ 12) := hid (by have := hM.out; rw [hun.out]; simp at this; omega)
      clear hM
      generalize hNN : Q.length + unB wr (w.heap.size + 1) = N at hN hM2
      have hNN' := hid hNN
      clear hNN hun
      go_loopw [4, 22] (fun v i wj => ∃ (k : Nat) (Q : List Nat) (R : Nat → Option Nat), k ≤ 12 ∧ i = .int .i64 k ∧ Hid (Srow nx f x k Q R) ∧ Hid (OwQ wj (w.heap.size + 2) v P Q) ∧ Hid (Rf wj (w.heap.size + 1) P R) ∧ Hid (∀ k x, k < 12 → R k = some x → x < 12 ∧ D x = true) ∧ Hid (∀ x ∈ Q, x < 12 ∧ D x = true) ∧ Hid (Below (w.heap.size + 1) W0 wj) ∧ w.heap.size + 2 < wj.heap.size ∧ Hid (Q.length + nnR R = N) ∧ Hid (slLenT v = Q.length)) (fun _ i _ => 12 - (intOf i).toNat)
      case atStart => exact ⟨0, Q, R, by omega, rfl, hrow, hQt, hF, hRr, hQr2, hB, hz, hN, hid rfl⟩
      case round =>
        clear hrow hQt hF hRr hQr2 hB hz hN
        obtain ⟨k, Q2, R2, hk, rfl, hrow, hQ, hF, hRr, hQr, hB, hz, hN, hsl⟩ := hrel
        obtain ⟨b2, off2, c2, rfl, hc21, hc22⟩ := hQ.out.form
        by_cases hlt : k < 12
        · have i0 : (0 : Int) ≤ (k : Int) := by omega
          have i1 : (k : Int) < 12 := by omega
          have hix := hafx.out k hlt
          cases sk : nx (x : Int) (k : Int) with
          | false =>
            rw [pV, pO_false sk] at hix
            have hrow2 := hid (hrow.out.skip hlt (.inl sk))
            clear hrow sk
            go_wp2
            go_roundw
            case rel => exact ⟨k + 1, Q2, R2, by omega, by go_num, hrow2, hQ, hF, hRr, hQr, hB, hz, hN, hsl⟩
            case measure => simp [intOf]; omega
          | true =>
            rw [pV, pO_true sk] at hix
            have hcr := Rf.at_ hF.out hlt
            cases hr : R2 k with
            | some y =>
              rw [rV, rO_some hr] at hcr
              have hrow2 := hid (hrow.out.skip hlt (.inr (by rw [hr]; simp)))
              clear hrow sk hr
              go_wp2
              go_roundw
              case rel => exact ⟨k + 1, Q2, R2, by omega, by go_num, hrow2, hQ, hF, hRr, hQr, hB, hz, hN, hsl⟩
              case measure => simp [intOf]; omega
            | none =>
              rw [rV, rO_none hr] at hcr
              have hfr := Cs.frozen hF.out k
              have hrow2 := hid (hrow.out.add hlt sk hr)
              have dk := (hG.out.aD x k hx12 hlt sk).2
              have hRr2 := hid (show ∀ j y, j < 12 → upR R2 k x j = some y → y < 12 ∧ D y = true from fun j y hj h => by
                by_cases e : j = k
                · subst e; rw [upR_same] at h; injection h with h; subst h; exact ⟨hx12, dx⟩
                · rw [upR_other e] at h; exact hRr.out j y hj h)
              have hQr2 := hid (show ∀ y ∈ Q2 ++ [k], y < 12 ∧ D y = true from fun y hy => by
                rcases List.mem_append.1 hy with h | h
                · exact hQr.out y h
                · simp at h; subst h; exact ⟨hlt, dk⟩)
              have hN2 := hid (show (Q2 ++ [k]).length + nnR (upR R2 k x) = N from by
                have := nnR_up (x := x) hlt hr
                rw [← hN.out, ← this]; simp; omega)
              have hql : Q2.length < 1099511627776 := by have := hN.out; have := hM2.out; omega
              have hF2 := hid (Rf.put hF.out hlt x)
              have hQ2 := hid (OwQ.kp (w' := wr.setCell ⟨w.heap.size + 1, k, none⟩ (.pointer (some ⟨P x, 0, none⟩))) hQ.out (Kp.setCell (S := fun b => b = w.heap.size + 1) (p := ⟨w.heap.size + 1, k, none⟩) (Kp.refl _ wr) (.inr rfl) _) (fun b h e => hQ.out.apart hF.out (by decide) (by subst e; exact h)))
              have hB2 := hid (hB.out.setCell (p := ⟨w.heap.size + 1, k, none⟩) (Nat.le_refl _) (.pointer (some ⟨P x, 0, none⟩)))
              have hz2 : w.heap.size + 2 < (wr.setCell ⟨w.heap.size + 1, k, none⟩ (.pointer (some ⟨P x, 0, none⟩))).heap.size := by simpa [World.setCell] using hz
              obtain ⟨W5, hW5⟩ : ∃ W5, wr.setCell ⟨w.heap.size + 1, k, none⟩ (.pointer (some ⟨P x, 0, none⟩)) = W5 := ⟨_, rfl⟩
              rw [hW5] at hF2 hQ2 hB2 hz2
              replace hW5 := hid hW5
              clear hrow sk hr hF hQ hB hRr hQr hN
              go_upto_region 11 with (fail)
              rw [hW5.out]
              clear hW5 hcr hfr
              go_wp2_with (at_builtin; refine wpList_appQ rfl (.tmp 37) (.tmp 39) rfl (w.heap.size + 2) P k (.slice (some ⟨b2, off2, none⟩) Q2.length c2) Q2 rfl rfl hQ2.out (by omega) hql ?_; intro v6 w6 hv6 hk6)
              have hF6 := hid (Cs.kp hF2.out hk6 (hQ2.out.apart hF2.out (by decide)))
              have hB6 := hid (hB2.out.trans (hk6.base (B := w.heap.size + 1) (by omega) (fun y hy => by
                obtain ⟨b3, off3, c3, cur3, e3, h3, -⟩ := hQ2.out
                rw [e3] at hy
                injection hy with hy
                simp only at hy
                omega)))
              have hz6 := Nat.lt_of_lt_of_le hz2 hk6.size
              have hv7 := hid hv6
              obtain ⟨b6, off6, c6', e6, -⟩ := hv6.form
              subst e6
              clear hk6 hF2 hQ2 hB2 hv6 hsl
              go_roundw
              case rel => exact ⟨k + 1, Q2 ++ [k], upR R2 k x, by omega, by go_num, hrow2, hv7, hF6, hRr2, hQr2, hB6, hz6, hN2, hid rfl⟩
              case measure => simp [intOf]; omega
        · obtain rfl : k = 12 := by omega
          have hS2 := hid (hrow.out.done hf)
          have hun2 := hid (unB_eq hF.out)
          clear hrow
          go_wp2
          go_roundw
          case rel => exact ⟨Q2, R2, hS2, hQ, hF, hRr, hQr, hB, hz, hid (by have := hN.out; have := hM2.out; omega)⟩
          case measure =>
            have h1 := hN.out
            have h2 := hNN'.out
            have h3 := hun2.out
            have h4 := hq1.out
            simp [slLenT]
            omega
end Go.Proofs.Ytdhafappclcijaa
