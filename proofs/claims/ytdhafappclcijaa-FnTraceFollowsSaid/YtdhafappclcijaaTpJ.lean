/-
  Contracts of the program's cycle through a message, and of TraceCycle. No condition but lengths below 2^40.
-/
import Derived.Test.YtdhafappclcijaaTpF
import Derived.Test.YtdhafappclcijaaTpH
import Derived.LaidEql
namespace Go.Proofs.Ytdhafappclcijaa
open Go.RowKit
set_option linter.unusedVariables false
set_option linter.unusedSimpArgs false

theorem ins1_cons (f y : Int) (acc : List Int) : ins1 (f :: acc) y = f :: y :: acc := rfl

theorem run_ptrIn_same (a : Addr) (w : World) (d : Nat) : (Op.equalIn (d + 1) 40 (.pointer (some a)) (.pointer (some a))).run Try.prog w = .ok true w := by
  have hp : Try.prog.underlying 40 = some (.pointer 46) := by kernel_rfl
  have hs : (sizeOf 46).run Try.prog w = .ok 25 w := by kernel_rfl
  simp [Op.equalIn, run_underlying hp, hs, run_sameAddr_same]

theorem run_ptrIn_other {a b : Addr} {w : World} {ca cb : Array Value} {ta tb : TypeId} (hne : a ≠ b) (ha : Cs w a.block ta ca) (hb : Cs w b.block tb cb) (d : Nat) : (Op.equalIn (d + 1) 40 (.pointer (some a)) (.pointer (some b))).run Try.prog w = .ok false w := by
  have hp : Try.prog.underlying 40 = some (.pointer 46) := by kernel_rfl
  have hs : (sizeOf 46).run Try.prog w = .ok 25 w := by kernel_rfl
  simp [Op.equalIn, run_underlying hp, hs, run_sameAddr_other w hne ha hb]

theorem run_ptr_same (a : Addr) (w : World) : (binOp .neq 40 (.pointer (some a)) (.pointer (some a))).run Try.prog w = .ok (.bool false) w := by
  have h := run_ptrIn_same a w 9999
  simp only [binOp]
  simp [Op.equal, Op.maxDepth, h]

theorem run_ptr_other {a b : Addr} {w : World} {ca cb : Array Value} {ta tb : TypeId} (hne : a ≠ b) (ha : Cs w a.block ta ca) (hb : Cs w b.block tb cb) : (binOp .neq 40 (.pointer (some a)) (.pointer (some b))).run Try.prog w = .ok (.bool true) w := by
  have h := run_ptrIn_other hne ha hb 9999
  simp only [binOp]
  simp [Op.equal, Op.maxDepth, h]

set_option maxHeartbeats 4000000 in
theorem cycle_any {w : World} {lo f : Nat} {P : Nat → Nat} {D : Nat → Bool} {bf : Nat → Nat → Bool} {nx : Int → Int → Bool} (hg : Gr w lo P D bf (fun a b => nx (a : Int) (b : Int))) (hr : Rng nx) (hf : f < 12) (df : D f = true) :
    Calls Try.prog 40 #[.pointer (some ⟨P f, 0, none⟩)] w (NewI w (pathB nx (f : Int))) := by
  have hG := hid hg
  have hR := hid hr
  clear hg hr
  have i0 : (0 : Int) ≤ (f : Int) := by omega
  have i1 : (f : Int) < 12 := by omega
  go_enter Try.func40, Try.ntmps40
  go_wp2_with fail
  refine (search_any hG.out hf df).mono ?_
  rintro e w1 ⟨R, rfl, hend, hRr, hb1⟩
  have hz1 := hb1.size
  obtain ⟨W2, hW2⟩ : ∃ W2, w1.alloc (.cells (rfC P R) 42) = W2 := ⟨_, rfl⟩
  have hB2 := hid (show Below w.heap.size w W2 by rw [← hW2]; exact hb1.alloc hz1 _)
  have hF2 := hid (show Rf W2 w1.heap.size P R by rw [← hW2]; exact Cs.new w1 _ _)
  have hG2 := hid (hG.out.step hB2.out)
  have hz2 : w1.heap.size < W2.heap.size := by rw [← hW2]; simp
  have hGl := hid (show ∀ b, GrS P D b → b < w.heap.size by rintro b ⟨k, h1, h2, rfl⟩; exact hG.out.lt h1 h2)
  have hRr' := hid hRr
  replace hW2 := hid hW2
  clear hb1 hRr
  have hna := hG2.out.num hf df
  have hcr := Rf.at_ hF2.out hf
  rcases hend with ⟨hno, hp⟩ | hS
  · rw [rV, rO_none hno] at hcr
    have hp' := hid hp
    have he := hid (OwI.empty_lit (B := w.heap.size) W2 (by omega))
    have hb := hid (hB2.out.alloc (by omega) (.cells #[] 3))
    clear hno hp
    go_upto_region 2 with (fail)
    rw [hW2.out]
    go_wp2
    go_ret
    exact ⟨_, rfl, by rw [hp'.out]; exact he.out, hb.out⟩
  · obtain ⟨x, hx, hBk⟩ := hS.back
    rw [rV, rO_some hx] at hcr
    have hx' := hid hx
    have hBk' := hid hBk
    obtain ⟨W3, hW3⟩ : ∃ W3, W2.alloc (.cells #[.int .i64 f] 3) = W3 := ⟨_, rfl⟩
    have hO3 := hid (show OwI W3 (w1.heap.size + 1) (.slice (some ⟨W2.heap.size, 0, none⟩) 1 1) [(f : Int)] by
      rw [← hW3]
      exact owI_of (cur := #[.int .i64 f]) (Cs.new W2 _ _) (by omega) rfl (by omega) (by simp [maxLen]) rfl rfl)
    have hB3 := hid (show Below w.heap.size w W3 by rw [← hW3]; exact hB2.out.alloc (by omega) _)
    have hF3 := hid (show Rf W3 w1.heap.size P R by rw [← hW3]; exact Cs.alloc hF2.out _)
    have hz3 : w1.heap.size + 1 < W3.heap.size := by rw [← hW3]; simp; omega
    have hG3 := hid (hG.out.step hB3.out)
    have hna3 := hG3.out.num hf df
    have hcr3 := Rf.at_ hF3.out hf
    rw [rV, rO_some hx] at hcr3
    have hW3' := hid hW3
    clear hS hx hBk hW3
    go_upto_region 2 with (fail)
    rw [hW2.out]
    go_upto_region 5 with (fail)
    rw [hW3'.out]
    clear hW2 hW3' hB2 hF2 hG2 hna hcr
    go_wp2
    clear hna3 hcr3
    go_loopw [4, 5] (fun v m wr => ∃ (acc : List Int) (y : Nat), m = .pointer (some ⟨P y, 0, none⟩) ∧ Hid (Back nx f R acc y) ∧ Hid (D y = true) ∧ Hid (OwI wr (w1.heap.size + 1) v ((f : Int) :: acc)) ∧ Hid (slLenT v = acc.length + 1) ∧ Hid (Rf wr w1.heap.size P R) ∧ Hid (Below w.heap.size w wr) ∧ w1.heap.size + 1 < wr.heap.size) (fun v _ _ => 13 - slLenT v)
    case atStart => exact ⟨[], x, rfl, hBk', hid (hRr'.out f x hf hx'.out).2, hO3, hid rfl, hF3, hB3, hz3⟩
    case round =>
      clear hO3 hF3 hB3 hz3 hG3 hBk'
      obtain ⟨acc, y, rfl, hBk, hdy, hO, hsl, hF, hB, hz⟩ := hrel
      have hy12 := hBk.out.y12
      have hG4 := hid (hG.out.step hB.out)
      have hsh := hid (hBk.out.short hR.out hf)
      by_cases hyf : y = f
      · subst hyf
        have hp := hid (hBk.out.done)
        have hO2 := hid (hO.out.more (by omega : w.heap.size ≤ w1.heap.size + 1))
        obtain ⟨A5, c5, e5, -⟩ := hO.out.form
        subst e5
        have hsm := run_ptr_same ⟨P y, 0, none⟩
        go_wp2
        go_ret
        exact ⟨_, rfl, by rw [hp.out]; exact hO2.out, hB.out⟩
      · have hPne : P y ≠ P f := fun e => hyf (hG4.out.inj hy12 hf hdy.out df e)
        have hot := run_ptr_other (a := ⟨P y, 0, none⟩) (b := ⟨P f, 0, none⟩) (fun e => hPne (by injection e)) (hG4.out.nd y hy12 hdy.out) (hG4.out.nd f hf df)
        obtain ⟨z, hRy, hBk2⟩ := hBk.out.step hyf
        have hnay := hG4.out.num hy12 hdy.out
        have hdz := hid (hRr'.out y z hy12 hRy)
        have hBk3 := hid hBk2
        have hin := hid (fun (v : Value) (ho : OwI wr (w1.heap.size + 1) v ((f : Int) :: acc)) => Insert1_any (z := (y : Int)) ho (by omega) (by simp) (by have := hsh.out; simp; omega))
        have hRy' := hid hRy
        have y0 : (0 : Int) ≤ (y : Int) := by omega
        have y1 : (y : Int) < 12 := by omega
        clear hPne hBk hBk2 hRy hyf
        go_wp2_with fail
        refine (hin.out _ hO.out).mono ?_
        rintro e w5 ⟨v5, rfl, hO5, hb5⟩
        rw [ins1_cons] at hO5
        have hF5 := hid (Cs.below hF.out hb5 (by omega))
        have hB5 := hid (hB.out.trans (hb5.mono (by omega)))
        have hz5 := hb5.size
        have hG5 := hid (hG.out.step hB5.out)
        have hcy := Rf.at_ hF5.out hy12
        rw [rV, rO_some hRy'.out] at hcy
        have hnay5 := hG5.out.num hy12 hdy.out
        obtain ⟨A5, c5, e5, -⟩ := hO5.form
        subst e5
        have hO6 := hid hO5
        clear hin hO hF hB hb5 hO5 hnay hot hG4
        go_wp2
        go_roundw
        case rel => exact ⟨(y : Int) :: acc, z, rfl, hBk3, hid hdz.out.2, hO6, hid rfl, hF5, hB5, by omega⟩
        case measure => rw [hsl.out]; have := hsh.out; simp [slLenT]; omega
end Go.Proofs.Ytdhafappclcijaa
