/-
  A region that draws its order, reads, and calls what only makes new memory: one walk of the text's order serves every order. The plain readers of entries. No condition but lengths below 2^40.
-/
import Derived.Test.YtbnmeedmeikepaaGmD
namespace Go.Proofs.Ytbnmeedmeikepaa
open Go.RowKit
set_option linter.unusedVariables false

/-- a world in which all that lay in W still lies -/
structure BW (W : World) where
  wd : World
  below : Below W.heap.size W wd

instance (W : World) : Nonempty (BW W) := ⟨⟨W, Below.refl _ _⟩⟩
section
variable {W : World}

theorem BW.cell (x : BW W) {b off : Nat} {v : Value} (h : W.cell? ⟨b, off, none⟩ = some v) : x.wd.cell? ⟨b, off, none⟩ = some v :=
  (x.below.cell (p := ⟨b, off, none⟩) (World.block_lt_of_cell? W _ h)).trans h

theorem BW.rde (x : BW W) {A : Option Addr} {n : Nat} {zs : List En} (h : RdE W W.heap.size A n zs) : RdE x.wd x.wd.heap.size A n zs := (h.below x.below).more x.below.size

theorem BW.call {P : Program} {f : FuncId} {args : Array Value} {v : Value} (x : BW W) (h : Calls P f args x.wd fun e w' => e = .returned v ∧ Below x.wd.heap.size x.wd w') :
    Calls P f args x.wd fun e w'' => e = .returned v ∧ ∃ y : BW W, w'' = y.wd :=
  h.mono fun _ w' ⟨he, hb⟩ => ⟨he, ⟨w', x.below.trans (hb.mono x.below.size)⟩, rfl⟩

theorem BW.same {P : Program} {f : FuncId} {args : Array Value} {v : Value} (x : BW W) (h : Calls P f args x.wd fun e w' => e = .returned v ∧ x.wd = w') :
    Calls P f args x.wd fun e w'' => e = .returned v ∧ ∃ y : BW W, w'' = y.wd :=
  h.mono fun _ _ ⟨he, hw⟩ => ⟨he, x, hw.symm⟩

theorem wpQuiet_mono {P : Program} {ops : Array Oper} {C : World → Prop} {Q Q' : Act → Prop} (h : ∀ a, Q a → Q' a) : ∀ (l : List Oper) (a : Act), wpQuiet P ops C Q l a → wpQuiet P ops C Q' l a
  | [], _, k => h _ k
  | o :: l, a, k => by
    unfold wpQuiet at k ⊢
    split
    · rename_i hw
      rw [if_pos hw] at k
      exact Oper.quiet_mono (fun a => wpQuiet_mono h l a) k
    · rename_i hw
      rw [if_neg hw] at k
      exact wpQuiet_mono h l _ k

theorem wp_region_below {P : Program} {id : Nat} {Q : Exit → Act → World → Prop} {a : Act} {l : List Oper} (hm : P.follows .mixedOrders = true) (hB : Region.lexB .any l.toArray = true)
    (h : wpQuiet P l.toArray (fun w' => ∃ x : BW W, w' = x.wd) (fun a' => ∀ w', Below W.heap.size W w' → Q .normal a' w') l a) : (Code.region id l.toArray true).wp P Q a W :=
  wp_region_quiet (C := fun w' => ∃ x : BW W, w' = x.wd) hm hB ⟨⟨W.drew, (Below.refl _ _).drew⟩, rfl⟩ (wpQuiet_mono (fun a' h w' ⟨x, e⟩ => by subst e; exact h _ x.below) _ _ (by simpa using h))
end

set_option maxHeartbeats 400000 in
theorem messageExists_any (n : Int) (w : World) :
    Calls Try.prog 24 #[.int .i64 n] w fun e w' => e = .returned (.bool (msB n)) ∧ w = w' := by
  go_enter Try.func24, Try.ntmps24
  go_wp2
  all_goals go_ret
  · exact ⟨ret_bool (by simp [msB, inB, *]; omega), rfl⟩
  · exact ⟨ret_bool (by simp [msB, inB, *]; omega), rfl⟩

set_option maxHeartbeats 400000 in
theorem l11Message_any (n : Int) (w : World) :
    Calls Try.prog 30 #[.int .i64 n] w fun e w' => e = .returned (.bool (msB n)) ∧ w = w' := by
  go_enter Try.func30, Try.ntmps30
  go_wp2_with (go_at_call 50; (with_reducible refine (l6In_any _ _ _ _).mono ?_); rintro e w' ⟨rfl, rfl⟩)
  go_ret
  exact ⟨rfl, rfl⟩

set_option maxHeartbeats 1000000 in
theorem l11Find_any {B n c : Nat} {A : Option Addr} {zs : List En} (m : Int) (w : World) (hr : RdE w B A n zs) (hn : n < 1099511627776) :
    Calls Try.prog 52 #[.slice A n c, .int .i64 m] w fun e w' => e = .returned (.int .i64 (plI zs m)) ∧ w = w' := by
  have hl' := hid hr.len
  have hr' := hid hr
  clear hr
  go_enter Try.func52, Try.ntmps52
  go_wp2
  go_loop [5] (fun i => ∃ k : Nat, k ≤ n ∧ i = .int .i64 k ∧ Hid (∀ j y, j < k → zs[j]? = some y → y.1 ≠ m)) (fun i => n - (intOf i).toNat)
  case atStart => exact ⟨0, Nat.zero_le _, rfl, hid (fun j y h => by omega)⟩
  case round =>
    obtain ⟨k, hk, rfl, hmiss⟩ := hrel
    by_cases hlt : k < n
    · obtain ⟨b, off, m', t, g, f, rfl, hx, hb, c0, c1, c2, c3⟩ := hr'.out.at_ hlt
      by_cases he : m' = m
      · have heq : (m' == m) = true := by simp [he]
        have R := hid (plI_hit hx.out he hmiss.out).2
        have he' := hid he
        clear he
        go_wp2
        go_ret
        exact ⟨ret_int R.out.symm, rfl⟩
      · have heq : (m' == m) = false := by simp [he]
        have he' := hid he
        clear he
        go_wp2
        go_round
        case rel => exact ⟨k + 1, by omega, by go_num, hid (fun j y hj hy => by
            by_cases e : j = k
            · subst e; rw [hx.out] at hy; injection hy with hy; rw [← hy]; exact he'.out
            · exact hmiss.out j y (by omega) hy)⟩
        case measure => simp [intOf]; omega
    · have R : Hid (plI zs m = -1) := hid (plI_miss (fun e he => by
        obtain ⟨j, hj, e1⟩ := List.getElem_of_mem he
        exact hmiss.out j e (by rw [hl'.out] at hj; omega) (by rw [List.getElem?_eq_getElem hj, e1]))).2
      go_wp2
      go_ret
      exact ⟨ret_int R.out.symm, rfl⟩

set_option maxHeartbeats 400000 in
theorem Len_any (A : Option Addr) (n c : Nat) (w : World) :
    Calls Try.prog 48 #[.slice A n c] w fun e w' => e = .returned (.int .i64 n) ∧ w = w' := by
  go_enter Try.func48, Try.ntmps48
  go_wp2
  go_ret
  exact ⟨rfl, rfl⟩

set_option maxHeartbeats 1000000 in
theorem Less_h {n c i j : Nat} {A : Option Addr} {zs : List En} (w : World) (hr : RdE w w.heap.size A n zs) (hn : n < 1099511627776) (hi : i < n) (hj : j < n) :
    Calls Try.prog 76 #[.slice A n c, .int .i64 i, .int .i64 j] w fun e w' => e = .returned (.bool (ltS (keyE zs i) (keyE zs j))) ∧ Below w.heap.size w w' := by
  obtain ⟨b, off, m, t, g, f, rfl, hx, hb, c0, c1, c2, c3⟩ := hr.at_ hi
  obtain ⟨b2, off2, m2, t2, g2, f2, e2, hx2, hb2, d0, d1, d2, d3⟩ := hr.at_ hj
  injection e2 with e2
  injection e2 with e3 e4
  subst e3; subst e4
  have K := hid (show ltS (keyE zs i) (keyE zs j) = lexB t g t2 g2 by rw [keyE, keyE, atE_get hx.out, atE_get hx2.out]; rfl)
  have C1 : ∀ x : BW w, x.wd.cell? ⟨b, off + i * 4 + 1, none⟩ = some (.int .i64 t) := fun x => x.cell c1
  have C2 : ∀ x : BW w, x.wd.cell? ⟨b, off + i * 4 + 2, none⟩ = some (.int .i64 g) := fun x => x.cell c2
  have D1 : ∀ x : BW w, x.wd.cell? ⟨b, off + j * 4 + 1, none⟩ = some (.int .i64 t2) := fun x => x.cell d1
  have D2 : ∀ x : BW w, x.wd.cell? ⟨b, off + j * 4 + 2, none⟩ = some (.int .i64 g2) := fun x => x.cell d2
  have i0 : (0 : Int) ≤ (i : Int) := by omega
  have i1 : (i : Int) < (n : Int) := by omega
  have j0 : (0 : Int) ≤ (j : Int) := by omega
  have j1 : (j : Int) < (n : Int) := by omega
  clear c0 c1 c2 c3 d0 d1 d2 d3 hr hx hx2
  go_enter Try.func76, Try.ntmps76
  go_wp2_with fail
  refine wp_region_below (by kernel_rfl) (by kernel_rfl) ?_
  repeat (go_big_quiet_step ((go_at_call 55; exact BW.call _ (StampLessM _ _ _ _ _))))
  refine wpQuiet_nil ?_
  intro w1 hb1
  go_wp2
  go_ret
  exact ⟨by rw [K.out]; rfl, hb1⟩
end Go.Proofs.Ytbnmeedmeikepaa
