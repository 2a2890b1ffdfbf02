/-
  Contracts of the program's senders, mayCome, and of take where a sender may go on. No condition but lengths below 2^40.
-/
import Derived.Test.YtgeihcbiahnnaaaCeK
import Derived.Test.YtgeihcbiahnnaaaCeJ
import Derived.Test.YtgeihcbiahnnaaaBw
namespace Go.Proofs.Ytgeihcbiahnnaaa
open Go.RowKit
set_option linter.unusedVariables false
set_option linter.unusedSimpArgs false

/-- how much of the line lies behind a pointer -/
def restOf (n : Nat) : Value → Nat
  | .pointer (some a) => n - a.block
  | _ => 0

theorem inL_take {ns : List Wn} {k : Nat} {x : Wn} (h : ns[k + 1]? = some x) : ((inL ns).take (k + 1)).map (fun x => x.1) = ((inL ns).take k).map (fun x => x.1) ++ [x.s] := by
  have h1 : (inL ns)[k]? = some (x.s, x.g) := by rw [inL_get, h]; rfl
  obtain ⟨hk, e⟩ := List.getElem?_eq_some_iff.1 h1
  rw [List.take_succ_eq_append_getElem hk, e, List.map_append]
  rfl

set_option maxHeartbeats 2000000 in
theorem senders_any {lo : Nat} {ns : List Wn} {x0 : Wn} (w : World) (hL : Ln w lo ns) (h0 : ns[0]? = some x0) (hn : ns.length < 1000000) :
    Calls Try.prog 60 #[.pointer (some ⟨x0.b, 0, none⟩)] w fun e w' => ∃ v, e = .returned v ∧ OwI w' w.heap.size v ((inL ns).map (fun x => x.1)) ∧ Below w.heap.size w w' := by
  have hL' := hid hL
  have hB0 := hid (below1 w (.cells #[] 3))
  have hO0 := hid (OwI.lit0 w rfl)
  obtain ⟨-, -, d2, -⟩ := (hL.step hB0.out).cells h0
  clear hL h0
  go_enter Try.func60, Try.ntmps60
  go_wp2
  go_loopw [3, 4] (fun v p wr => ∃ k : Nat, p = .pointer (nxP ns (k + 1)) ∧ Hid (OwI wr w.heap.size v (((inL ns).take k).map (fun x => x.1))) ∧ Hid (Below w.heap.size w wr)) (fun _ p _ => restOf w.heap.size p)
  case atStart => exact ⟨0, rfl, hO0, hB0⟩
  case round =>
    clear d2
    obtain ⟨k, rfl, hO, hB⟩ := hrel
    cases hx : ns[k + 1]? with
    | none =>
      have hp : nxP ns (k + 1) = none := nxP_none (List.getElem?_eq_none_iff.1 hx)
      have hfin := hid (show ((inL ns).take k).map (fun x => x.1) = (inL ns).map (fun x => x.1) by
        rw [List.take_of_length_le]
        rw [inL_len]
        have := List.getElem?_eq_none_iff.1 hx
        omega)
      rw [hp]
      clear hp hx
      go_wp2
      go_ret
      exact ⟨_, rfl, by rw [← hfin.out]; exact hO.out, hB.out⟩
    | some x =>
      have hLr := hid (hL'.out.step hB.out)
      have hx' := hid hx
      obtain ⟨c0, -, c2, -⟩ := hLr.out.cells hx
      have hxl := hid (hL'.out.lt hx)
      have hO' := hO.out
      have hsz := hB.out.size
      have hkk : k < ns.length := by have := (List.getElem?_eq_some_iff.1 hx).1; omega
      have hlen : (((inL ns).take k).map (fun x => x.1)).length = k := by rw [List.length_map, List.length_take, inL_len]; have := (List.getElem?_eq_some_iff.1 hx).1; omega
      have htk := hid (inL_take hx)
      rw [nxP_some hx]
      clear hx
      go_wp2_with (at_builtin; refine wpList_app1 rfl (.tmp 16) (.tmp 21) rfl w.heap.size x.s _ _ rfl rfl hO' hsz (by omega) ?_; intro v' w1 hown' hbel'; obtain ⟨-, -, e2, -⟩ := (hLr.out.stepB hbel' (fun i y hy => Nat.lt_of_lt_of_le (hL'.out.lt hy) (Nat.le_refl _))).cells hx'.out)
      have hO1 := hid (show OwI w1 w.heap.size v' (((inL ns).take (k + 1)).map (fun x => x.1)) by rw [htk.out]; exact hown')
      have hB1 := hid (hB.out.trans hbel')
      have hrest := hid (show restOf w.heap.size (.pointer (nxP ns (k + 1 + 1))) < w.heap.size - x.b from by
        cases hy : ns[k + 1 + 1]? with
        | none =>
          rw [nxP_none (List.getElem?_eq_none_iff.1 hy)]
          have := hxl.out
          show 0 < _
          omega
        | some y =>
          rw [nxP_some hy]
          have h1 := hL'.out.asc (k + 1) (k + 1 + 1) x y (by omega) hx'.out hy
          have h2 := hL'.out.lt hy
          show w.heap.size - y.b < _
          omega)
      clear hown' hbel' hO' hlen
      go_wp2
      go_roundw
      case rel => exact ⟨k + 1, rfl, hO1, hB1⟩
      case measure => exact hrest.out

/-- someone outside the line has a credit of the group -/
def mayB (c : Cr) (L : List Int) (g : Int) : Bool := (List.range c.hs.length).any fun k => hasB (c.h k).1 g && !hasB L (k : Int)

set_option maxHeartbeats 4000000 in
theorem mayCome_any {A1 A2 : Option Addr} {n1 n2 c1 c2 lo : Nat} {c : Cr} {ns : List Wn} {x0 : Wn} (g : Int) (w : World) (hr : RdC w A1 n1 A2 n2 c) (hL : Ln w lo ns) (h0 : ns[0]? = some x0) (hn : ns.length < 1000000) :
    Calls Try.prog 58 #[crV (.slice A1 n1 c1) (.slice A2 n2 c2), .int .i64 g, .pointer (some ⟨x0.b, 0, none⟩)] w fun e w' => e = .returned (.bool (mayB c ((inL ns).map (fun x => x.1)) g)) ∧ Below w.heap.size w w' := by
  obtain ⟨W, hW⟩ : ∃ W, w.alloc (.cells #[.slice A1 n1 c1, .slice A2 n2 c2] 25) = W := ⟨_, rfl⟩
  have hB := hid (show Below w.heap.size w W by rw [← hW]; exact below1 w _)
  have hC := hid (show Cs W w.heap.size 25 #[.slice A1 n1 c1, .slice A2 n2 c2] by rw [← hW]; exact Cs.new w _ _)
  have hL1 := hid (hL.step hB.out)
  have hR := hid (hr.step hB.out)
  have h0' := hid h0
  have b2 := hr.b2
  have l2 := hid hr.len.2
  obtain ⟨L, hLL⟩ : ∃ L, (inL ns).map (fun x => x.1) = L := ⟨_, rfl⟩
  have hLn : L.length < 1000000 := by rw [← hLL, List.length_map, inL_len]; omega
  rw [hLL]
  have hLL' := hid hLL
  replace hW := hid hW
  clear hr hL h0 hLL
  go_enter Try.func58, Try.ntmps58
  go_upto_region 1 with (fail)
  rw [hW.out]
  go_wp2_with fail
  refine (senders_any _ hL1.out h0'.out hn).mono ?_
  rw [hLL'.out]
  rintro e w1 ⟨v, rfl, ho, hb1⟩
  obtain ⟨Av, cv, rfl, hrv⟩ := ho.form
  have hB1 := hid (hB.out.trans (hb1.mono hB.out.size))
  have hC1 := hid (hC.out.step hb1)
  have hR1 := hid (hR.out.step hb1)
  have hV1 := hid hrv
  clear hb1 ho hrv
  obtain ⟨d0, d1, -, -⟩ := hC1.out.two
  go_wp2
  go_loopw [15] (fun i wr => ∃ k : Nat, k ≤ n2 ∧ i = .int .i64 k ∧ Hid (∀ j, j < k → (hasB (c.h j).1 g && !hasB L (j : Int)) = false) ∧ Hid (Below w1.heap.size w1 wr)) (fun i _ => n2 - (intOf i).toNat)
  case atStart => exact ⟨0, by omega, rfl, hid (fun j h => by omega), hid (Below.refl _ _)⟩
  case round =>
    clear d0 d1
    obtain ⟨k, hk, rfl, hall, hBr⟩ := hrel
    by_cases hlt : k < n2
    · have i0 : (0 : Int) ≤ (k : Int) := by omega
      have i1 : (k : Int) < (n2 : Int) := by omega
      have hkl : k < c.hs.length := by rw [l2.out]; exact hlt
      obtain ⟨b, off, Ai, m, ci, rfl, hb, hm, e0, e1, hri, hmc, hci, hml⟩ := (hR1.out.step hBr.out).at_ hlt
      obtain ⟨z, hz⟩ : ∃ z, (c.h k).2 = z := ⟨_, rfl⟩
      obtain ⟨zs, hzs⟩ : ∃ zs, (c.h k).1 = zs := ⟨_, rfl⟩
      rw [hz] at e1
      rw [hzs] at hri hm
      have hzs' := hid hzs
      obtain ⟨W5, hW5⟩ : ∃ W5, (wr.alloc (.cells #[.slice Ai m ci, .int .i64 z] 49)) = W5 := ⟨_, rfl⟩
      have hC5 := hid (show Cs W5 wr.heap.size 49 #[.slice Ai m ci, .int .i64 z] by rw [← hW5]; exact Cs.new wr _ _)
      have hB5 := hid (show Below w1.heap.size w1 W5 by rw [← hW5]; exact hBr.out.alloc hBr.out.size _)
      have hri5 := hid (show RdI W5 wr.heap.size Ai m zs by rw [← hW5]; exact Reads.alloc hri.out (Nat.le_refl _) _)
      have hV5 := hid (show RdI W5 w1.heap.size Av L.length L from Reads.below hV1.out hB5.out)
      have hW5' := hid hW5
      obtain ⟨p0, p1, -, -⟩ := hC5.out.two
      clear hW5 hri hm hz hzs
      go_upto_region 5 with (fail)
      rw [hW5'.out]
      clear hW5' e0 e1
      cases h1 : hasB zs g with
      | false =>
        have h1' := hid h1
        have R := hid (show (hasB (c.h k).1 g && !hasB L (k : Int)) = false by rw [hzs'.out, h1]; rfl)
        clear h1
        go_wp2_with (go_at_call 52; (with_reducible refine (ContainsI_as h1'.out _ hri5.out hml).mono ?_); rintro e w7 ⟨rfl, rfl⟩)
        go_roundw
        case rel => exact ⟨k + 1, by omega, by go_num, hid (fun j hj => by
              by_cases e : j = k
              · subst e; exact R.out
              · exact hall.out j (by omega)), hB5⟩
        case measure => simp [intOf]; omega
      | true =>
        have h1' := hid h1
        cases h2 : hasB L (k : Int) with
        | true =>
          have h2' := hid h2
          have R := hid (show (hasB (c.h k).1 g && !hasB L (k : Int)) = false by rw [h2]; simp)
          clear h1 h2
          go_wp2_with (go_at_call 52; (first | (with_reducible refine (ContainsI_as h1'.out _ hri5.out hml).mono ?_) | (with_reducible refine (ContainsI_as h2'.out _ hV5.out (by omega)).mono ?_)); rintro e w7 ⟨rfl, rfl⟩)
          go_roundw
          case rel => exact ⟨k + 1, by omega, by go_num, hid (fun j hj => by
                by_cases e : j = k
                · subst e; exact R.out
                · exact hall.out j (by omega)), hB5⟩
          case measure => simp [intOf]; omega
        | false =>
          have h2' := hid h2
          have R := hid (show mayB c L g = true from List.any_eq_true.2 ⟨k, List.mem_range.2 hkl, by rw [hzs'.out, h1, h2]; rfl⟩)
          have hBF := hid (hB1.out.trans (hB5.out.mono hB1.out.size))
          clear h1 h2
          go_wp2_with (go_at_call 52; (first | (with_reducible refine (ContainsI_as h1'.out _ hri5.out hml).mono ?_) | (with_reducible refine (ContainsI_as h2'.out _ hV5.out (by omega)).mono ?_)); rintro e w7 ⟨rfl, rfl⟩)
          go_ret
          exact ⟨ret_bool R.out.symm, hBF.out⟩
    · obtain rfl : k = n2 := by omega
      have hkn : ¬ ((k : Int) < (k : Int)) := by omega
      have R := hid (show mayB c L g = false from by
        unfold mayB
        rw [List.any_eq_false]
        intro j hj
        rw [hall.out j (by rw [List.mem_range, l2.out] at hj; exact hj)]
        simp)
      have hBF := hid (hB1.out.trans (hBr.out.mono hB1.out.size))
      go_wp2
      go_ret
      exact ⟨ret_bool R.out.symm, hBF.out⟩
end Go.Proofs.Ytgeihcbiahnnaaa
