/-
  Contracts of the program's lengths of copies (a struct of a number and an array of seven): quorum, having, hasMajority, leader. No condition but lengths below 2^40.
-/
import Derived.Test.YtgejohkdgcoeeaaCmB
namespace Go.Proofs.Ytgejohkdgcoeeaa
open Go.RowKit

/-- a struct of lengths by value: the number, then the seven places -/
abbrev clv (ys : List Int) : Value := .agg (ints ys).toArray
/-- block b is such a struct -/
def AtC (w : World) (b : Nat) (ys : List Int) : Prop := w.heap[b]? = some (.cells (ints ys).toArray 43 (0, 0))
section
variable {w w' : World} {b : Nat} {ys : List Int}

theorem AtC.lt (h : AtC w b ys) : b < w.heap.size := (Array.getElem?_eq_some_iff.1 h).1

theorem AtC.cell (h : AtC w b ys) {k : Nat} (hk : k < ys.length) : w.cell? ⟨b, k, none⟩ = some (.int .i64 (ys.getD k 0)) := by
  rw [cell_of_row w b k _ _ (0, 0) h]; simp [ints, hk]

theorem AtC.fr (h : AtC w b ys) (k : Nat) : w.frozen? ⟨b, k, none⟩ = false := frozen_of_row w b k _ _ h

theorem AtC.keep (h : AtC w b ys) (hb : w'.heap[b]? = w.heap[b]?) : AtC w' b ys := hb.trans h

theorem AtC.grown {g : Nat} (h : AtC w b ys) (hg : w.grownBy w' (some g)) (hne : b ≠ g) : AtC w' b ys := h.keep (hg.block b h.lt (fun e => hne (by injection e)))

theorem AtC.below {B : Nat} (h : AtC w b ys) (hb : Below B w w') (hB : b < B) : AtC w' b ys := h.keep (hb.block b hB)

theorem AtC.alloc (h : AtC w b ys) (o : Obj) : AtC (w.alloc o) b ys := h.keep (Below.heap_alloc w o b h.lt)

theorem AtC.far (h : AtC w b ys) {p : Addr} (hne : b ≠ p.block) (u : Value) : AtC (w.setCell p u) b ys := h.keep (heap_setCell_other w p b u hne)

theorem AtC.drewN (h : AtC w b ys) (n : Nat) : AtC (w.drewN n) b ys := h

theorem AtC.drew (h : AtC w b ys) : AtC w.drew b ys := h

theorem AtC.quiet (h : AtC w b ys) (hq : Qt w w') : AtC w' b ys := by
  obtain ⟨q, rfl⟩ := hq
  exact h

theorem AtC.set (h : AtC w b ys) (k : Nat) (z : Int) : AtC (w.setCell ⟨b, k, none⟩ (.int .i64 z)) b (ys.set k z) := by
  unfold AtC; rw [heap_setCell_same w b k _ _ _ h]; simp [ints, List.map_set]

theorem AtC.new (w : World) (ys : List Int) : AtC (w.alloc (.cells (ints ys).toArray 43)) w.heap.size ys := heap_alloc_new w _
end
/-- the array's place k -/
theorem AtC.arr {w : World} {b : Nat} {m : Int} {xs : List Int} (h : AtC w b (m :: xs)) {k : Nat} (hk : k < xs.length) : w.cell? ⟨b, 1 + k, none⟩ = some (.int .i64 (xs.getD k 0)) := by
  rw [h.cell (by simp; omega), Nat.add_comm 1 k]; simp

theorem AtC.num {w : World} {b : Nat} {m : Int} {xs : List Int} (h : AtC w b (m :: xs)) : w.cell? ⟨b, 0, none⟩ = some (.int .i64 m) := by
  rw [h.cell (by simp)]; simp

theorem AtC.setArr {w : World} {b : Nat} {m : Int} {xs : List Int} (h : AtC w b (m :: xs)) (k : Nat) (z : Int) : AtC (w.setCell ⟨b, 1 + k, none⟩ (.int .i64 z)) b (m :: xs.set k z) := by
  have := h.set (1 + k) z
  rw [Nat.add_comm 1 k] at this ⊢
  simpa using this

theorem seven {xs : List Int} (h : xs.length = 7) : ∃ a0 a1 a2 a3 a4 a5 a6, xs = [a0, a1, a2, a3, a4, a5, a6] := by
  match xs, h with
  | [a0, a1, a2, a3, a4, a5, a6], _ => exact ⟨a0, a1, a2, a3, a4, a5, a6, rfl⟩

theorem below_one (w : World) (o : Obj) : Below w.heap.size w (w.alloc o) := (Below.refl w.heap.size w).alloc (Nat.le_refl _) o

theorem getD_lt {xs : List Int} {k m : Nat} (h : k < m) : (xs.take m).getD k 0 = xs.getD k 0 := by simp [h]

/-- the first m places of an array of seven, as a slice -/
theorem slice_arr {m : Nat} (hm : m ≤ 7) (ad : Addr) (W : World) : (Instr.sliceAt 41 (.pointer (some ad)) none (some (.int .i64 (m : Int))) none).run Try.prog W = .ok (.slice (some ad) m 7) W := by
  have h7 : Try.prog.arrayLen 41 = 7 := by kernel_rfl
  rw [run_sliceAt_array_h (P := Try.prog) W 41 ad (by kernel_rfl) .i64 (m : Int) (by omega) (by rw [h7]; omega)]
  rw [show (sizeOf (Try.prog.elem 41)).run Try.prog W = .ok 1 W from by kernel_rfl, h7]
  simp [Result.andThen, slicedAt, Addr.add]

set_option maxHeartbeats 400000 in
theorem lengthExists_any (n : Int) (w : World) :
    Calls Try.prog 38 #[.int .i64 n] w fun e w' => e = .returned (.bool (lnB n)) ∧ w = w' := by
  go_enter Try.func38, Try.ntmps38
  go_wp2
  all_goals go_ret
  · exact ⟨ret_bool (by simp [lnB, inB, *]), rfl⟩
  · exact ⟨ret_bool (by simp [lnB, inB, *]; omega), rfl⟩

set_option maxHeartbeats 400000 in
theorem quorum_any {m : Nat} {xs : List Int} (hx : xs.length = 7) (hm : m ≤ 7) (w : World) :
    Calls Try.prog 39 #[clv ((m : Int) :: xs)] w fun e w' => e = .returned (.int .i64 ((m : Int) / 2 + 1)) ∧ Below w.heap.size w w' := by
  obtain ⟨a0, a1, a2, a3, a4, a5, a6, rfl⟩ := seven hx
  go_enter Try.func39, Try.ntmps39
  go_wp2
  go_ret
  exact ⟨rfl, below_one _ _⟩

set_option maxHeartbeats 1000000 in
theorem having_any {m : Nat} {xs : List Int} (x : Int) (hx : xs.length = 7) (hm : m ≤ 7) (w : World) :
    Calls Try.prog 40 #[clv ((m : Int) :: xs), .int .i64 x] w fun e w' => e = .returned (.int .i64 (hav (xs.take m) x : Nat)) ∧ Below w.heap.size w w' := by
  have hA : AtC (w.alloc (.cells (ints ((m : Int) :: xs)).toArray 43)) w.heap.size ((m : Int) :: xs) := AtC.new w _
  have hB : Below w.heap.size w (w.alloc (.cells (ints ((m : Int) :: xs)).toArray 43)) := below_one _ _
  have hx' := hid hx
  obtain ⟨a0, a1, a2, a3, a4, a5, a6, e⟩ := seven hx
  have hA' := hid hA
  have hB' := hid hB
  clear hA hB
  have hsl := slice_arr hm
  rw [e]
  go_enter Try.func40, Try.ntmps40
  go_wp2
  generalize hW : w.alloc _ = W
  have hW' := hid hW
  have hA2 : Hid (AtC W w.heap.size ((m : Int) :: xs)) := hid (by rw [← hW]; simpa [e] using hA'.out)
  have hB2 : Hid (Below w.heap.size w W) := hid (by rw [← hW]; simpa [e] using hB'.out)
  clear hW hW' hA' hB' hsl
  have e' := hid e
  clear e
  go_loop [5, 13] (fun h i => ∃ k q : Nat, k ≤ m ∧ i = .int .i64 k ∧ h = .int .i64 q ∧ q ≤ k ∧ Hid (q = hav ((xs.take m).take k) x)) (fun _ i => m - (intOf i).toNat)
  case atStart => exact ⟨0, 0, Nat.zero_le _, rfl, rfl, Nat.le_refl _, hid (by simp [hav])⟩
  case round =>
    obtain ⟨k, q, hk, rfl, rfl, hqk, hq⟩ := hrel
    by_cases hlt : k < m
    · have hc := hA2.out.arr (k := k) (by rw [hx'.out]; omega)
      obtain ⟨z, hz⟩ : ∃ z, xs.getD k 0 = z := ⟨_, rfl⟩
      rw [hz] at hc
      have hs := hid (hav_take_succ x (zs := xs.take m) (k := k) (z := z) (by rw [List.length_take, hx'.out]; omega) (by rw [getD_lt hlt]; exact hz))
      clear hz
      by_cases hg : x ≤ z
      · have hs' := hid (show q + 1 = hav ((xs.take m).take (k + 1)) x by rw [hs.out, if_pos hg, hq.out])
        clear hs
        go_wp2
        go_round
        case rel => exact ⟨k + 1, q + 1, by omega, by go_num, by go_num, by omega, hs'⟩
        case measure => simp [intOf]; omega
      · have hs' := hid (show q = hav ((xs.take m).take (k + 1)) x by rw [hs.out, if_neg hg, hq.out]; rfl)
        clear hs
        go_wp2
        go_round
        case rel => exact ⟨k + 1, q, by omega, by go_num, rfl, by omega, hs'⟩
        case measure => simp [intOf]; omega
    · have hfin := hid (show hav (xs.take m) x = q by rw [hq.out, List.take_of_length_le (l := xs.take m) (by rw [List.length_take]; omega)])
      go_wp2
      go_ret
      exact ⟨ret_int (by rw [← e'.out, hfin.out]), hB2.out⟩

set_option maxHeartbeats 1000000 in
theorem hasMajority_any {B p m c : Nat} {A : Option Addr} {xs live : List Int} (hx : xs.length = 7) (hm : m ≤ 7) (w : World) (hr : RdI w B A p live) (hB0 : B ≤ w.heap.size) (hp : p < 1099511627776) :
    Calls Try.prog 43 #[clv ((m : Int) :: xs), .slice A p c] w fun e w' => e = .returned (.bool (liveB m live)) ∧ Below w.heap.size w w' := by
  have hA : AtC (w.alloc (.cells (ints ((m : Int) :: xs)).toArray 43)) w.heap.size ((m : Int) :: xs) := AtC.new w _
  have hB : Below w.heap.size w (w.alloc (.cells (ints ((m : Int) :: xs)).toArray 43)) := below_one _ _
  have hR : Hid (RdI (w.alloc (.cells (ints ((m : Int) :: xs)).toArray 43)) B A p live) := hid (Reads.alloc hr hB0 _)
  have hl' := hid hr.len
  clear hr
  obtain ⟨a0, a1, a2, a3, a4, a5, a6, e⟩ := seven hx
  have hx' := hid hx
  have hA' := hid hA
  have hB' := hid hB
  clear hA hB
  rw [e]
  go_enter Try.func43, Try.ntmps43
  go_wp2
  generalize hW : w.alloc _ = W
  have hA2 : Hid (AtC W w.heap.size ((m : Int) :: xs)) := hid (by rw [← hW]; simpa [e] using hA'.out)
  have hB2 : Hid (Below w.heap.size w W) := hid (by rw [← hW]; simpa [e] using hB'.out)
  have hR2 : Hid (RdI W B A p live) := hid (by rw [← hW]; simpa [e] using hR.out)
  clear hW hA' hB' hR
  have e' := hid e
  clear e
  have hnum := hA2.out.num
  go_loop [5, 10] (fun l i => ∃ (k : Nat) (la : Int), k ≤ p ∧ i = .int .i64 k ∧ l = .int .i64 la ∧ Hid (la = lastAt live k) ∧ Hid (∀ j, j < k → okLv m live j = true)) (fun _ i => p - (intOf i).toNat)
  case atStart => exact ⟨0, -1, Nat.zero_le _, rfl, rfl, rfl, hid (fun j h => by omega)⟩
  case round =>
    obtain ⟨k, la, hk, rfl, rfl, hla, hall⟩ := hrel
    by_cases hlt : k < p
    · obtain ⟨ad, z, rfl, hz, hc⟩ := RdI.at' hR2.out hlt
      have hok := hid (okLv_last hall.out hz.out hla.out)
      have hkl := hid (show k < live.length by rw [hl'.out]; exact hlt)
      by_cases h1 : la < z
      · by_cases h2 : z < (m : Int)
        · have hok2 := hid (show okLv m live k = true by rw [hok.out]; simp [h1, h2])
          clear hok
          go_wp2
          go_round
          case rel => exact ⟨k + 1, z, by omega, by go_num, rfl, hid (by rw [lastAt, if_neg (by omega)]; exact hz.out.symm), hid (fun j hj => by
              by_cases e : j = k
              · subst e; exact hok2.out
              · exact hall.out j (by omega))⟩
          case measure => simp [intOf]; omega
        · have hbad := hid (liveB_bad (m := m) hkl.out (by rw [hok.out]; simp [h2]))
          clear hok
          go_wp2
          go_ret
          exact ⟨by rw [hbad.out]; rfl, hB2.out⟩
      · have hbad := hid (liveB_bad (m := m) hkl.out (by rw [hok.out]; simp [h1]))
        clear hok
        go_wp2
        go_ret
        exact ⟨by rw [hbad.out]; rfl, hB2.out⟩
    · have hfin := hid (liveB_fin (m := m) (live := live) (fun i hi => hall.out i (by rw [hl'.out] at hi; omega)))
      have hlen : Hid (((m : Int) :: xs) = [(m : Int), a0, a1, a2, a3, a4, a5, a6]) := hid (by rw [e'.out])
      have hcs : W.cell? ⟨w.heap.size, 1, none⟩ = some (.int .i64 a0) ∧ W.cell? ⟨w.heap.size, 2, none⟩ = some (.int .i64 a1) ∧ W.cell? ⟨w.heap.size, 3, none⟩ = some (.int .i64 a2) ∧ W.cell? ⟨w.heap.size, 4, none⟩ = some (.int .i64 a3) ∧ W.cell? ⟨w.heap.size, 5, none⟩ = some (.int .i64 a4) ∧ W.cell? ⟨w.heap.size, 6, none⟩ = some (.int .i64 a5) ∧ W.cell? ⟨w.heap.size, 7, none⟩ = some (.int .i64 a6) := by
        have h := hA2.out
        rw [hlen.out] at h
        exact ⟨h.cell (k := 1) (by simp), h.cell (k := 2) (by simp), h.cell (k := 3) (by simp), h.cell (k := 4) (by simp), h.cell (k := 5) (by simp), h.cell (k := 6) (by simp), h.cell (k := 7) (by simp)⟩
      obtain ⟨c1, c2, c3, c4, c5, c6, c7⟩ := hcs
      have hqm := quorum_any (m := m) (xs := [a0, a1, a2, a3, a4, a5, a6]) rfl hm W
      have hqm' := hid hqm
      clear hqm
      go_wp2_with fail
      refine hqm'.out.mono ?_
      rintro e w2 ⟨rfl, hb2⟩
      have hB3 := hid (hB2.out.trans (hb2.mono hB2.out.size))
      clear hb2
      go_wp2
      go_ret
      exact ⟨ret_bool (by rw [hfin.out, hl'.out, decide_eq_decide]; omega), hB3.out⟩
end Go.Proofs.Ytgejohkdgcoeeaa
