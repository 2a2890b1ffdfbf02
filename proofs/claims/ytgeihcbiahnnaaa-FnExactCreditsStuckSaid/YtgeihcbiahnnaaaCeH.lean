/-
  Contracts of the program's with and copied. No condition but lengths below 2^40.
-/
import Derived.Test.YtgeihcbiahnnaaaCeE
import Derived.Test.YtgeihcbiahnnaaaCdI
import Derived.Deep.RegionLaw
import Derived.Deep.RegionHeld3
import Derived.RegionTactic
import Derived.BigRegion
namespace Go.Proofs.Ytgeihcbiahnnaaa
open Go.RowKit
set_option linter.unusedVariables false
set_option linter.unusedSimpArgs false

theorem mask_lt {zs : List Int} : maskR zs < 32 := by
  cases h : gvalid zs with
  | true => rw [maskR_yes h]; exact mk_lt h
  | false => rw [maskR_no h]; decide

theorem with_elems {zs : List Int} {g : Int} (hs : setB zs = true) (hg : grB g = true) : elemsM (maskR zs ||| 2 ^ g.toNat) = unionL zs [g] := by
  obtain ⟨g0, g4⟩ := grB_true.1 hg
  have hm : ∀ z : Int, 0 ≤ z ∧ z < 5 → ((maskR zs).testBit z.toNat = true ↔ z ∈ zs) := fun z hz => by
    cases h : gvalid zs with
    | true =>
      rw [maskR_yes h, mk_test, List.any_eq_true]
      have := (setB_true.1 hs).2
      constructor
      · rintro ⟨y, hy, e⟩
        have h1 := this y hy
        have h2 : y.toNat = z.toNat := by simpa using e
        have : y = z := by omega
        exact this ▸ hy
      · exact fun h => ⟨z, h, by simp⟩
    | false =>
      rw [maskR_no h]
      have : zs = [] := by
        unfold setB at hs
        rw [h, Bool.or_false, decide_eq_true_iff] at hs
        exact List.eq_nil_of_length_eq_zero hs
      subst this
      simp
  refine asc_ext (elemsM_asc _) ((grps_asc 5).filter _) fun z => ?_
  show z ∈ elemsM _ ↔ z ∈ unionL zs [g]
  rw [elemsM_mem, unionL_mem, Nat.testBit_or, Bool.or_eq_true, Nat.testBit_two_pow]
  constructor
  · rintro ⟨a, b | b⟩
    · exact ⟨by omega, .inl ((hm z a).1 b)⟩
    · have : g.toNat = z.toNat := by simpa using b
      exact ⟨by omega, .inr (by omega)⟩
  · rintro ⟨a, b | b⟩
    · exact ⟨by omega, .inl ((hm z (by omega)).2 b)⟩
    · subst b
      exact ⟨by omega, .inr (by simp)⟩

set_option maxHeartbeats 2000000 in
theorem Hold_with_any {m ci : Nat} {Ai : Option Addr} {zs : List Int} {g : Int} (x : Int) (w : World) (hr : RdI w w.heap.size Ai m zs) (hm : m < 1099511627776) (hs : setB zs = true) (hg : grB g = true) :
    Calls Try.prog 53 #[hoV (.slice Ai m ci) x, .int .i64 g] w fun e w' => ∃ A N c, e = .returned (hoV (.slice A N c) (-1)) ∧ OwI w' w.heap.size (.slice A N c) (unionL zs [g]) ∧ Below w.heap.size w w' := by
  obtain ⟨W, hW⟩ : ∃ W, ((w.alloc (.cells #[.slice Ai m ci, .int .i64 x] 49)).alloc (.cells #[.slice none 0 0, .int .i64 0] 49)) = W := ⟨_, rfl⟩
  have B := hid (show Below w.heap.size w W by rw [← hW]; exact below2 w _ _)
  have C0 := hid (show Cs W w.heap.size 49 #[.slice Ai m ci, .int .i64 x] by rw [← hW]; exact (Cs.new w _ _).alloc _)
  have C1 := hid (show Cs W (w.heap.size + 1) 49 #[.slice none 0 0, .int .i64 0] by rw [← hW]; exact Cs.new' _ _ _ (by simp))
  have hz : w.heap.size + 1 < W.heap.size := C1.out.lt
  have X := hid (Reads.below hr B.out)
  have hel := hid (with_elems hs hg)
  have hg' := hid hg
  replace hW := hid hW
  clear hr hs hg
  obtain ⟨d0, d1, -, -⟩ := C0.out.two
  go_enter Try.func53, Try.ntmps53
  go_upto_region 1 with (fail)
  rw [hW.out]
  go_wp2_with (first | (go_at_call 72; (with_reducible refine (groupSetOf_any _ X.out hm).mono ?_); rintro e w2 ⟨rfl, rfl⟩) | (go_at_call 73; (with_reducible refine (with_any _ _ mask_lt hg'.out _).mono ?_); rintro e w2 ⟨rfl, rfl⟩))
  refine (groups_any _ (or_lt32 mask_lt (by have := grB_true.1 hg'.out; omega)) _).mono ?_
  rintro e w2 ⟨v, rfl, ho, hb⟩
  rw [hel.out] at ho
  obtain ⟨A, N, c, rfl, hN⟩ := own_formN ho
  have D1 := hid (C1.out.step hb)
  have B2 := hid (B.out.trans (hb.mono B.out.size))
  have hO := hid ho
  clear hb ho C0 C1 B X d0 d1
  obtain ⟨z0, z1, z2, z3⟩ := D1.out.two
  have hY := hid ((D1.out.set 0 (.slice A N c)).set 1 (.int .i64 (-1))).two
  have hF := hid (own_lo (own_of_block (w' := (w2.setCell ⟨w.heap.size + 1, 0, none⟩ (.slice A N c)).setCell ⟨w.heap.size + 1, 1, none⟩ (.int .i64 (-1))) hO.out fun g hg => (heap_setCell_other _ ⟨w.heap.size + 1, 1, none⟩ g _ (fun e => by have := (hO.out.lt g hg).1; simp only at e; omega)).trans (heap_setCell_other w2 ⟨w.heap.size + 1, 0, none⟩ g _ (fun e => by have := (hO.out.lt g hg).1; simp only at e; omega))) (show w.heap.size ≤ W.heap.size by omega))
  have hBF := hid ((B2.out.setCell (p := ⟨w.heap.size + 1, 0, none⟩) (by simp) (.slice A N c)).setCell (p := ⟨w.heap.size + 1, 1, none⟩) (by simp) (.int .i64 (-1)))
  clear D1 B2 hO
  go_wp2
  obtain ⟨r0, r1, -, -⟩ := hY.out
  refine bodyPost_ret (v := hoV (.slice A N c) (-1)) (by simp [results, Try.results53, go_sem, r0, r1]) rfl ?_
  exact ⟨A, N, c, rfl, hF.out, hBF.out⟩

section
variable {w : World} {ops : Array Oper} {o : Oper} {a : Act} {K : Act → World → Prop} {Q : Exit → Act → World → Prop}

theorem wp_appHo (s x : Operand)
    (ho : o.op = .call { callee := .builtin .append, args := #[s, x], argTypes := #[23, 23] })
    (lo : Nat) (A : Option Addr) (m ci : Nat) (z : Int) (H : Value) (n : Nat) (xs : List Value) {b : Nat} (hb : w.heap.size = b) (hs : a.eval s = H) (hx : a.eval x = .slice (some ⟨b, 0, none⟩) 1 1) (hown : w.ownsRow lo 49 2 H n xs) (hB : lo ≤ w.heap.size) (hn : n < 1099511627776)
    (h : ∀ H' w', w'.ownsRow lo 49 2 H' (n + 1) (xs ++ [.slice A m ci, .int .i64 z]) → w.grownBy w' H.ownBlock → K (a.put o.dst H') w') :
    o.wp Try.prog a (w.alloc (.cells #[.slice A m ci, .int .i64 z] 49)) K Q := by
  subst hb
  obtain ⟨i0, hi, hz0, hz1, hz2⟩ := info_parts info_ho
  obtain ⟨v', w', h1, h2, h3, _⟩ := run_append_own_at (P := Try.prog) (w.alloc (.cells #[.slice A m ci, .int .i64 z] 49)) lo 23 o.type 49 i0 (.agg #[.slice none 0 0, .int .i64 0]) 2 32 und_hos hi hz0 hz1 hz2 rfl (by decide) H n xs (own_of_blk hown fun g hg => Below.heap_alloc w _ g (hown.lt g hg).2) ⟨w.heap.size, 0, none⟩ 1 1 [.slice A m ci, .int .i64 z] rfl (by
    intro j u hj
    match j, hj with
    | 0, hj => simp at hj; subst hj; simp [Addr.add]
    | 1, hj => simp at hj; subst hj; simp [Addr.add]) (by intro u hu; simp at hu; rcases hu with rfl | rfl <;> rfl) (by unfold maxLen; omega) (by omega) (by simp; omega)
  unfold Oper.wp execOp
  simp only [ho, resolve, invoke, builtin, Sem.run_bind, Sem.run_pure, Result.andThen_ok, List.map_toArray, List.map_cons, List.map_nil, hs, hx, h1]
  exact h v' w' h2 ⟨h3.os, h3.tape, h3.output, by have := h3.size; simp at this; omega, fun i hi hne => (h3.block i (by simp; omega) hne).trans (Below.heap_alloc w _ i hi)⟩

theorem step_appHo {E : Prop} (hgd : o.guard = none) (s x : Operand)
    (ho : o.op = .call { callee := .builtin .append, args := #[s, x], argTypes := #[23, 23] })
    (lo : Nat) (A : Option Addr) (m ci : Nat) (z : Int) (H : Value) (n : Nat) (xs : List Value) {b : Nat} (hb : w.heap.size = b) (hs : a.eval s = H) (hx : a.eval x = .slice (some ⟨b, 0, none⟩) 1 1) (hown : w.ownsRow lo 49 2 H n xs) (hB : lo ≤ w.heap.size) (hn : n < 1099511627776)
    (h : ∀ H' w', w'.ownsRow lo 49 2 H' (n + 1) (xs ++ [.slice A m ci, .int .i64 z]) → w.grownBy w' H.ownBlock → K (a.put o.dst H') w') :
    if Region.wanted o (yielded ops a.tmps) = true then Oper.wp Try.prog o a (w.alloc (.cells #[.slice A m ci, .int .i64 z] 49)) K Q else E := by
  have hw : Region.wanted o (yielded ops a.tmps) = true := by simp [Region.wanted, hgd]
  rw [if_pos hw]
  exact wp_appHo s x ho lo A m ci z H n xs hb hs hx hown hB hn h

theorem step_appIH {E : Prop} (hgd : o.guard = none) (s x : Operand)
    (ho : o.op = .call { callee := .builtin .append, args := #[s, x], argTypes := #[22, 22] }) {B Br : Nat} {v : Value} {zs ys : List Int} {A : Option Addr} {m c : Nat} (hs : a.eval s = v) (hx : a.eval x = .slice A m c) (hown : OwI w B v zs) (hr : RdI w Br A m ys) (hB : B ≤ w.heap.size) (hn : zs.length + m < 1099511627776)
    (h : ∀ v' w', OwI w' B v' (zs ++ ys) → w.grownBy w' v.ownBlock → (v'.ownBlock = v.ownBlock ∨ v'.ownBlock = some w.heap.size) → K (a.put o.dst v') w') :
    if Region.wanted o (yielded ops a.tmps) = true then Oper.wp Try.prog o a w K Q else E := by
  have hw : Region.wanted o (yielded ops a.tmps) = true := by simp [Region.wanted, hgd]
  rw [if_pos hw]
  exact wp_appH s x ho hs hx hown hr hB hn h
end
end Go.Proofs.Ytgeihcbiahnnaaa
