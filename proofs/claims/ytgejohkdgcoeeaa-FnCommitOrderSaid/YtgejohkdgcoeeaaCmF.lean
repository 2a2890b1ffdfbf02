/-
  Contracts of the program: slices.Clone, list, copyLengthsOf, copyLengthsWith. No condition but lengths below 2^40.
-/
import Derived.Test.YtgejohkdgcoeeaaCmD
import Derived.Test.YtgejohkdgcoeeaaCmE
namespace Go.Proofs.Ytgejohkdgcoeeaa
open Go.RowKit

/-- the struct that a list of lengths gives -/
def clOf (zs : List Int) : List Int := if lvB zs then (zs.length : Int) :: (zs ++ List.replicate (7 - zs.length) 0) else zeros8

theorem clOf_no {zs : List Int} (h : lvB zs = false) : clOf zs = zeros8 := by simp [clOf, h]

theorem clOf_yes {zs : List Int} (h : lvB zs = true) : clOf zs = (zs.length : Int) :: (zs ++ List.replicate (7 - zs.length) 0) := by simp [clOf, h]

theorem pad_set {zs : List Int} {k n : Nat} {z : Int} (hz : zs.getD k 0 = z) (hk : k < zs.length) (hn : k < n) : (zs.take k ++ List.replicate (n - k) 0).set k z = zs.take (k + 1) ++ List.replicate (n - (k + 1)) 0 := by
  have e : zs[k] = z := by rw [← hz]; simp [hk]
  have hl : (zs.take k).length = k := by rw [List.length_take]; omega
  rw [List.set_append_right _ _ (by omega), hl, Nat.sub_self]
  obtain ⟨d, hd⟩ : ∃ d, n - k = d + 1 := ⟨n - k - 1, by omega⟩
  rw [hd, show n - (k + 1) = d by omega, List.replicate_succ, List.set_cons_zero, List.take_add_one, List.getElem?_eq_getElem hk, e]
  simp

def OfPost (zs : List Int) (w : World) (e : Ending) (w' : World) : Prop :=
  e = .returned (.tuple #[clv (clOf zs), .bool (lvB zs)]) ∧ Below w.heap.size w w'

set_option maxHeartbeats 2000000 in
theorem copyLengthsOf_any {B n c : Nat} {A : Option Addr} {zs : List Int} (w : World) (hr : RdI w B A n zs) (hB0 : B ≤ w.heap.size) (hn : n < 1099511627776) :
    Calls Try.prog 27 #[.slice A n c] w (OfPost zs w) := by
  have hl' := hid hr.len
  by_cases h0 : n = 0
  · have hv := lvB_len (zs := zs) (by rw [hl'.out]; omega)
    have hf := hid (clOf_no hv)
    have hv' := hid hv
    subst h0
    clear hr hv
    go_enter Try.func27, Try.ntmps27
    go_wp2
    refine bodyPost_ret (v := .tuple #[clv zeros8, .bool false]) (by simp [results, Try.results27, go_sem]) rfl ⟨?_, below_one _ _⟩
    rw [hf.out, hv'.out]
  · have hne : ((n : Int) == 0) = false := by simp; omega
    by_cases h7 : n ≤ 7
    · have hA : AtC ((w.alloc (.cells (ints zeros8).toArray 43)).alloc (.cells (ints ((n : Int) :: List.replicate 7 0)).toArray 43)) (w.heap.size + 1) ((n : Int) :: List.replicate 7 0) := by
        have := AtC.new (w.alloc (.cells (ints zeros8).toArray 43)) ((n : Int) :: List.replicate 7 0)
        simpa using this
      have hZ : AtC ((w.alloc (.cells (ints zeros8).toArray 43)).alloc (.cells (ints ((n : Int) :: List.replicate 7 0)).toArray 43)) w.heap.size zeros8 := (AtC.new w zeros8).alloc _
      have hB : Below w.heap.size w ((w.alloc (.cells (ints zeros8).toArray 43)).alloc (.cells (ints ((n : Int) :: List.replicate 7 0)).toArray 43)) := (below_one _ _).alloc (by simp) _
      have hR : RdI ((w.alloc (.cells (ints zeros8).toArray 43)).alloc (.cells (ints ((n : Int) :: List.replicate 7 0)).toArray 43)) B A n zs := Reads.alloc (Reads.alloc hr hB0 _) (by simp; omega) _
      have hA' := hid hA
      have hZ' := hid hZ
      have hB' := hid hB
      have hR' := hid hR
      clear hA hZ hB hR hr
      go_enter Try.func27, Try.ntmps27
      go_wp2
      generalize hW : (w.alloc _).alloc _ = W
      have hA2 : Hid (AtC W (w.heap.size + 1) ((n : Int) :: List.replicate 7 0)) := hid (by rw [← hW]; exact hA'.out)
      have hZ2 : Hid (AtC W w.heap.size zeros8) := hid (by rw [← hW]; exact hZ'.out)
      have hB2 : Hid (Below w.heap.size w W) := hid (by rw [← hW]; exact hB'.out)
      have hR2 : Hid (RdI W B A n zs) := hid (by rw [← hW]; exact hR'.out)
      clear hW hA' hB' hR' hZ'
      go_loopw [21] (fun i wr => ∃ k : Nat, k ≤ n ∧ i = .int .i64 k ∧ Hid (∀ j, j < k → lnB (zs.getD j 0) = true) ∧ Hid (AtC wr (w.heap.size + 1) ((n : Int) :: (zs.take k ++ List.replicate (7 - k) 0))) ∧ Hid (AtC wr w.heap.size zeros8) ∧ Hid (RdI wr B A n zs) ∧ Hid (Below w.heap.size w wr)) (fun i _ => n - (intOf i).toNat)
      case atStart => exact ⟨0, by omega, rfl, hid (fun j h => by omega), hA2, hZ2, hR2, hB2⟩
      case round =>
        obtain ⟨k, hk, rfl, hall, hA3, hZ3, hR3, hB3⟩ := hrel
        by_cases hlt : k < n
        · obtain ⟨ad, z, rfl, hz, hc⟩ := RdI.at' hR3.out hlt
          have hkl := hid (show k < zs.length by rw [hl'.out]; exact hlt)
          cases hg : lnB z with
          | true =>
            have hl7 := hid (show (zs.take k ++ List.replicate (7 - k) 0).length = 7 by simp [List.length_take, hl'.out]; omega)
            have hc2 := hA3.out.arr (k := k) (by rw [hl7.out]; omega)
            have hf2 := hA3.out.fr (1 + k)
            have hne2 : w.heap.size ≠ w.heap.size + 1 := by omega
            have hs := hid (hA3.out.setArr k z)
            have he := hid (pad_set (n := 7) hz.out hkl.out (by omega))
            have hg' := hid hg
            clear hg
            go_wp2_with (go_at_call 38; (with_reducible refine (lengthExists_any _ _).mono ?_); rw [hg'.out]; rintro e w' ⟨rfl, rfl⟩)
            go_roundw
            case rel =>
              refine ⟨k + 1, by omega, by go_num, hid (fun j hj => ?_), hid ?_, hid (hZ3.out.far (p := ⟨w.heap.size + 1, 1 + k, none⟩) hne2 _), hid (Reads.setCell hR3.out (p := ⟨w.heap.size + 1, 1 + k, none⟩) (by show B ≤ w.heap.size + 1; omega) _), hid (hB3.out.setCell (p := ⟨w.heap.size + 1, 1 + k, none⟩) (by show w.heap.size ≤ w.heap.size + 1; omega) _)⟩
              · by_cases e : j = k
                · subst e; rw [hz.out]; exact hg'.out
                · exact hall.out j (by omega)
              · rw [← he.out]; exact hs.out
            case measure => simp [intOf]; omega
          | false =>
            have hbad := hid (lvB_bad hkl.out (by rw [hz.out]; exact hg))
            have hf := hid (clOf_no hbad.out)
            have hg' := hid hg
            clear hg
            obtain ⟨d0, d1, d2, d3, d4, d5, d6, d7⟩ := hZ3.out.eight
            obtain ⟨f0, f1, f2, f3, f4, f5, f6, f7⟩ := hZ3.out.thaw
            go_wp2_with (go_at_call 38; (with_reducible refine (lengthExists_any _ _).mono ?_); rw [hg'.out]; rintro e w' ⟨rfl, rfl⟩)
            refine bodyPost_ret (v := .tuple #[clv zeros8, .bool false]) (by simp [results, Try.results27, go_sem, d0, d1, d2, d3, d4, d5, d6, d7]) rfl ⟨?_, below_put hB3.out (Nat.le_refl _)⟩
            rw [hf.out, hbad.out]
        · have hkn : k = n := by omega
          have hv : Hid (lvB zs = true) := hid (by
            rw [lvB_fin (fun i hi => hall.out i (by rw [hl'.out] at hi; omega)), hl'.out, inB_true]; omega)
          have hf := clOf_yes hv.out
          rw [hl'.out] at hf
          have hxl : (zs ++ List.replicate (7 - n) 0).length = 7 := by simp [hl'.out]; omega
          have hA4 := hA3.out
          rw [hkn, List.take_of_length_le (l := zs) (by rw [hl'.out]; omega)] at hA4
          obtain ⟨b0, b1, b2, b3, b4, b5, b6, e2⟩ := seven hxl
          rw [e2] at hA4 hf
          have hf' := hid hf
          obtain ⟨c0, c1, c2, c3, c4, c5, c6, c7⟩ := hA4.eight
          obtain ⟨d0, d1, d2, d3, d4, d5, d6, d7⟩ := hZ3.out.eight
          obtain ⟨f0, f1, f2, f3, f4, f5, f6, f7⟩ := hZ3.out.thaw
          clear hA4 hf e2 hxl hkn
          go_wp2
          refine bodyPost_ret (v := .tuple #[clv [(n : Int), b0, b1, b2, b3, b4, b5, b6], .bool true]) (by simp [results, Try.results27, go_sem, d0, d1, d2, d3, d4, d5, d6, d7]) rfl ⟨?_, below_put hB3.out (Nat.le_refl _)⟩
          rw [hf'.out, hv.out]
    · have hv := lvB_len (zs := zs) (by rw [hl'.out]; omega)
      have hf := hid (clOf_no hv)
      have hv' := hid hv
      clear hr hv
      go_enter Try.func27, Try.ntmps27
      go_wp2
      refine bodyPost_ret (v := .tuple #[clv zeros8, .bool false]) (by simp [results, Try.results27, go_sem]) rfl ⟨?_, below_one _ _⟩
      rw [hf.out, hv'.out]
end Go.Proofs.Ytgejohkdgcoeeaa
