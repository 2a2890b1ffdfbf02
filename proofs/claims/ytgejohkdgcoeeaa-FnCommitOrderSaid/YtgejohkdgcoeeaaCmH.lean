/-
  Contracts of the program: slices.Clone, list, CommitRepair, CommitNeeded. No condition but lengths below 2^40.
-/
import Derived.Test.YtgejohkdgcoeeaaCmG
import Derived.Deep.RegionHeld3
namespace Go.Proofs.Ytgejohkdgcoeeaa
open Go.RowKit

set_option maxHeartbeats 1000000 in
theorem Clone_any {B n c : Nat} {ad : Addr} {ys : List Int} (w : World) (hr : RdI w B (some ad) n ys) (hB : B ≤ w.heap.size) (hn0 : 0 < n) (hn : n < 1099511627776) :
    Calls Try.prog 44 #[.slice (some ad) n c] w fun e w' => ∃ v, e = .returned v ∧ OwI w' w.heap.size v ys ∧ Below w.heap.size w w' := by
  have hE := hid (OwI.empty_lit w (Nat.le_refl _))
  have hR := hid (Reads.alloc hr hB (.cells #[] 3))
  have hs : w.heap.size ≤ (w.alloc (.cells #[] 3)).heap.size := by simp
  have hB0 := hid (below_one w (.cells #[] 3))
  clear hr
  have hnil : ∀ W : World, (binOp .eql 23 (.slice (some ad) n c) (.slice none 0 0)).run Try.prog W = .ok (.bool false) W := fun W => by simp only [binOp]; simp [Op.equal, Op.maxDepth, Lib.run_equalIn_slice_nil W 9999 23 3 (some ad) n c 0 0 Try.underlying23]
  go_enter Try.func44, Try.ntmps44
  go_wp2_with (at_builtin; refine wpList_appN rfl (.tmp 5) (.tmp 6) rfl w.heap.size B _ [] ys ad n c rfl rfl hE.out hR.out hn0 hs (by decide) hn ?_; intro v2 w2 ho2 hb2)
  have ho2' : Hid (OwI w2 w.heap.size v2 ys) := hid (by simpa using ho2)
  have hB2 := hid (hB0.out.trans hb2)
  clear ho2 hb2
  go_wp2
  go_ret
  exact ⟨_, rfl, ho2'.out, hB2.out⟩

/-- the array's first m places, as a slice of ints -/
theorem AtC.rd {w : World} {b m : Nat} {n : Int} {xs : List Int} (h : AtC w b (n :: xs)) (hx : xs.length = 7) (hm : m ≤ 7) : RdI w (b + 1) (some ⟨b, 1, none⟩) m (xs.take m) := by
  refine ⟨by simp [ints, List.length_take]; omega, fun _ => ⟨_, rfl, Nat.lt_succ_self b, fun j u hu => ?_⟩⟩
  have hj : j < m := by
    have := (List.getElem?_eq_some_iff.1 hu).1
    simp [ints, List.length_take] at this; omega
  have hc := h.arr (k := j) (by omega)
  have e : (⟨b, 1, none⟩ : Addr).add j = ⟨b, 1 + j, none⟩ := by
    unfold Addr.add; split
    · rename_i h0; subst h0; rfl
    · rfl
  rw [e, hc, ← hu]
  have : j < xs.length := by omega
  simp [ints, hj, this]

set_option maxHeartbeats 1000000 in
theorem list_any {m : Nat} {xs : List Int} (hx : xs.length = 7) (hm0 : 1 ≤ m) (hm : m ≤ 7) (w : World) :
    Calls Try.prog 36 #[clv ((m : Int) :: xs)] w fun e w' => ∃ v, e = .returned v ∧ OwI w' w.heap.size v (xs.take m) ∧ Below w.heap.size w w' := by
  have hA : AtC (w.alloc (.cells (ints ((m : Int) :: xs)).toArray 43)) w.heap.size ((m : Int) :: xs) := AtC.new w _
  have hB : Below w.heap.size w (w.alloc (.cells (ints ((m : Int) :: xs)).toArray 43)) := below_one _ _
  have hx' := hid hx
  obtain ⟨a0, a1, a2, a3, a4, a5, a6, e⟩ := seven hx
  have hA' := hid hA
  have hB' := hid hB
  clear hA hB
  have hsl := slice_arr hm
  rw [e]
  go_enter Try.func36, Try.ntmps36
  go_wp2_with fail
  generalize hW : w.alloc _ = W
  have hA2 : Hid (AtC W w.heap.size ((m : Int) :: xs)) := hid (by rw [← hW]; simpa [e] using hA'.out)
  have hB2 : Hid (Below w.heap.size w W) := hid (by rw [← hW]; simpa [e] using hB'.out)
  clear hW hA' hB' hsl
  refine (Clone_any W (hA2.out.rd hx'.out hm) hA2.out.lt (by omega) (by omega)).mono ?_
  rintro e1 w2 ⟨v, rfl, ho, hb2⟩
  have ho' := hid (ho.more hB2.out.size)
  have hB3 := hid (hB2.out.trans (hb2.mono hB2.out.size))
  clear ho hb2
  go_wp2
  go_ret
  exact ⟨_, rfl, by rw [← e]; exact ho'.out, hB3.out⟩

set_option maxHeartbeats 2000000 in
theorem CommitRepair_impl {n m c d : Nat} {A A' : Option Addr} {zs live : List Int} (w : World) (hr : RdI w w.heap.size A n zs) (hy : RdI w w.heap.size A' m live) (hn : n < 1099511627776) (hm : m < 1099511627776) :
    Calls Try.prog 19 #[.slice A n c, .slice A' m d] w (RepPost zs live w) := by
  have hlx := hid hr.len
  have hr1 := hid hr
  have hy1 := hid hy
  clear hr hy
  cases hb : ldB zs live with
  | false =>
    have hb' := hid hb
    have hf : Hid (clWith zs live = [0, 0, 0, 0, 0, 0, 0, 0]) := hid (clWith_no hb)
    have hg := hid (repR_no hb)
    clear hb
    go_enter Try.func19, Try.ntmps19
    go_wp2_with fail
    refine (copyLengthsWith_any _ hr1.out hy1.out hn hm).mono ?_
    rintro e w2 ⟨he, hb2⟩
    rw [hf.out, hb'.out, clv8] at he
    subst he
    have hs2 := hb2.size
    have hs3 : w.heap.size ≤ (w2.alloc (.cells (ints zeros8).toArray 43)).heap.size := by simp; omega
    have hB2 := hid ((hb2.alloc hs2 (.cells (ints zeros8).toArray 43)).alloc hs3 (.cells #[] 3))
    have hO := hid (OwI.empty_lit (w2.alloc (.cells (ints zeros8).toArray 43)) hs3)
    clear hb2
    go_wp2
    go_ret2
    refine ⟨_, by rw [hb'.out]; rfl, ?_, hB2.out⟩
    rw [hg.out]
    have := hO.out
    simpa using this
  | true =>
    have hb' := hid hb
    obtain ⟨hv, hlv⟩ := ldB_both hb
    obtain ⟨b0, b1, b2, b3, b4, b5, b6, hg, hpad⟩ := clOf_lit hv
    have h17 := lvB_true hv
    have hn1 : 1 ≤ n := by have := h17.1; rw [hlx.out] at this; exact this
    have hn7 : n ≤ 7 := by have := h17.2.1; rw [hlx.out] at this; exact this
    have hf := clWith_yes hb
    rw [hlx.out] at hg hlv
    rw [hg] at hf
    have hld : Hid ((rep [b0, b1, b2, b3, b4, b5, b6] live).take n = repR zs live) := hid (by rw [repR_yes hb, ← hpad, rep_pad hlx.out])
    have hlv' := hid hlv
    have hf' := hid hf
    clear hb hv hlv hg hpad hf h17
    go_enter Try.func19, Try.ntmps19
    go_wp2_with fail
    refine (copyLengthsWith_any _ hr1.out hy1.out hn hm).mono ?_
    rintro e w2 ⟨he, hb2⟩
    rw [hf'.out, hb'.out, clv8] at he
    subst he
    have hs2 := hb2.size
    have hB3 := hid (hb2.alloc hs2 (.cells (ints [(n : Int), b0, b1, b2, b3, b4, b5, b6]).toArray 43))
    have hy3 : Hid (RdI (w2.alloc (.cells (ints [(n : Int), b0, b1, b2, b3, b4, b5, b6]).toArray 43)) w.heap.size A' m live) := hid (Reads.alloc (Reads.below hy1.out hb2) hs2 _)
    clear hb2 hr1 hy1
    go_wp2_with fail
    refine (repaired_any (xs := [b0, b1, b2, b3, b4, b5, b6]) rfl hn7 hlv'.out _ hy3.out hB3.out.size hm).mono ?_
    rintro e w5 ⟨rfl, hb5⟩
    have hB5 := hid (hB3.out.trans (hb5.mono hB3.out.size))
    clear hb5 hy3 hB3
    go_wp2_with fail
    refine (list_any (m := n) (xs := rep [b0, b1, b2, b3, b4, b5, b6] live) (by rw [rep_len]; rfl) hn1 hn7 _).mono ?_
    rw [hld.out]
    rintro e w6 ⟨v, rfl, ho, hb6⟩
    have ho' := hid (ho.more hB5.out.size)
    have hB6 := hid (hB5.out.trans (hb6.mono hB5.out.size))
    clear ho hb6
    go_wp2
    go_ret2
    exact ⟨_, by rw [hb'.out]; rfl, ho'.out, hB6.out⟩
end Go.Proofs.Ytgejohkdgcoeeaa
