/-
  Contracts of the program's freeValid, CreditsValid, hasSender. No condition but lengths below 2^40.
-/
import Derived.Test.YtfcoobebebdniaaCeC
namespace Go.Proofs.Ytfcoobebebdniaa
open Go.RowKit
set_option linter.unusedVariables false
set_option linter.unusedSimpArgs false

set_option maxHeartbeats 400000 in
theorem outOfRange_any (z : Int) (w : World) :
    Calls Try.prog 67 #[.int .i64 z] w fun e w' => e = .returned (.bool (!inB z 0 9)) ∧ w = w' := by
  by_cases h0 : z < 0
  · have R := hid (show inB z 0 9 = false by rw [Bool.eq_false_iff]; intro e; have := inB_true.1 e; omega)
    go_enter Try.func67, Try.ntmps67
    go_wp2
    go_ret
    exact ⟨by rw [R.out]; rfl, rfl⟩
  · by_cases h9 : 9 < z
    · have R := hid (show inB z 0 9 = false by rw [Bool.eq_false_iff]; intro e; have := inB_true.1 e; omega)
      go_enter Try.func67, Try.ntmps67
      go_wp2
      go_ret
      exact ⟨by rw [R.out]; rfl, rfl⟩
    · have R := hid (show inB z 0 9 = true from inB_true.2 ⟨by omega, by omega⟩)
      go_enter Try.func67, Try.ntmps67
      go_wp2
      go_ret
      exact ⟨by rw [R.out]; rfl, rfl⟩

set_option maxHeartbeats 1000000 in
theorem IndexRange_any {B n c : Nat} {A : Option Addr} {zs : List Int} (w : World) (hr : RdI w B A n zs) (hn : n < 1099511627776) :
    Calls Try.prog 80 #[.slice A n c, .func (.func 67) #[] #[]] w fun e w' => (∃ k : Int, e = .returned (.int .i64 k) ∧ decide (k ≥ 0) = zs.any fun z => !inB z 0 9) ∧ w = w' := by
  have hlen := hid hr.len
  have h' := hid hr
  clear hr
  go_enter Try.func80, Try.ntmps80
  go_wp2
  go_loop [8] (fun i => ∃ k : Nat, k ≤ n ∧ i = .int .i64 k ∧ Hid (∀ (j : Nat) (x : Int), j < k → zs[j]? = some x → inB x 0 9 = true)) (fun i => n - (intOf i).toNat)
  case atStart => exact ⟨0, by omega, rfl, hid (fun j x hj => by omega)⟩
  case round =>
    obtain ⟨k, hk, rfl, hall⟩ := hrel
    by_cases hlt : k < n
    · obtain ⟨ad, y, rfl, hy, hcy⟩ := RdI.at' h'.out hlt
      have i0 : (0 : Int) ≤ (k : Int) := by omega
      have i1 : (k : Int) < (n : Int) := by omega
      have hyg := hid (getDq (by rw [hlen.out]; exact hlt) hy.out)
      clear hy
      cases hb : inB y 0 9 with
      | false =>
        have R := hid (show (zs.any fun z => !inB z 0 9) = true from List.any_eq_true.2 ⟨_, List.mem_of_getElem? hyg.out, by rw [hb]; rfl⟩)
        have hb' := hid hb
        clear hb
        go_wp2_with fail
        refine (outOfRange_any _ _).mono ?_
        rw [hb'.out]
        rintro e w2 ⟨rfl, rfl⟩
        go_wp2
        go_ret
        exact ⟨⟨k, rfl, by rw [R.out]; simp⟩, rfl⟩
      | true =>
        have hb' := hid hb
        clear hb
        go_wp2_with fail
        refine (outOfRange_any _ _).mono ?_
        rw [hb'.out]
        rintro e w2 ⟨rfl, rfl⟩
        go_wp2
        go_round
        case rel => exact ⟨k + 1, by omega, by go_num, hid (fun j x hj hjx => by
              by_cases e : j = k
              · subst e
                have := hyg.out.symm.trans hjx
                injection this with this
                subst this
                exact hb'.out
              · exact hall.out j x (by omega) hjx)⟩
        case measure => simp [intOf]; omega
    · have hkn : ¬ ((k : Int) < (n : Int)) := by omega
      have R := hid (show (zs.any fun z => !inB z 0 9) = false from by
        rw [List.any_eq_false]
        intro x hx
        obtain ⟨j, hj, e1⟩ := List.getElem_of_mem hx
        have := hall.out j x (by rw [hlen.out] at hj; omega) (by rw [List.getElem?_eq_getElem hj, e1])
        simp [this])
      go_wp2
      go_ret
      exact ⟨⟨-1, rfl, by rw [R.out]; simp⟩, rfl⟩

set_option maxHeartbeats 400000 in
theorem ContainsRange_any {B n c : Nat} {A : Option Addr} {zs : List Int} (w : World) (hr : RdI w B A n zs) (hn : n < 1099511627776) :
    Calls Try.prog 68 #[.slice A n c, .func (.func 67) #[] #[]] w fun e w' => e = .returned (.bool (zs.any fun z => !inB z 0 9)) ∧ w = w' := by
  have h' := hid hr
  clear hr
  go_enter Try.func68, Try.ntmps68
  go_wp2_with fail
  refine (IndexRange_any _ h'.out hn).mono ?_
  rintro e w1 ⟨⟨k, rfl, hk⟩, rfl⟩
  have R := hid hk
  clear hk
  go_wp2
  go_ret
  exact ⟨by rw [← R.out]; rfl, rfl⟩

theorem any_range {zs : List Int} : (!(zs.any fun z => !inB z 0 9)) = zs.all fun z => inB z 0 9 := by
  rw [Bool.eq_iff_iff]
  simp [List.all_eq_true, List.any_eq_false]

set_option maxHeartbeats 400000 in
theorem freeValid_any {B n c : Nat} {A : Option Addr} {zs : List Int} (w : World) (hr : RdI w B A n zs) (hn : n < 1099511627776) :
    Calls Try.prog 39 #[.slice A n c] w fun e w' => e = .returned (.bool (frB zs)) ∧ w = w' := by
  have hlen := hid hr.len
  have h' := hid hr
  clear hr
  by_cases h5 : n = 5
  · have R := hid (show frB zs = !(zs.any fun z => !inB z 0 9) by rw [any_range]; unfold frB; rw [hlen.out, h5]; simp)
    have hb : ((n : Int) == 5) = true := by simp [h5]
    have hb2 : (n : Int) = 5 := by omega
    clear h5
    go_enter Try.func39, Try.ntmps39
    go_wp2_with fail
    refine (ContainsRange_any _ h'.out hn).mono ?_
    rintro e w1 ⟨rfl, rfl⟩
    go_wp2
    go_ret
    exact ⟨by rw [R.out]; rfl, rfl⟩
  · have R := hid (show frB zs = false by unfold frB; rw [hlen.out]; simp [h5])
    have hb : ((n : Int) == 5) = false := by rw [beq_eq_false_iff_ne]; omega
    clear h5
    go_enter Try.func39, Try.ntmps39
    go_wp2
    go_ret
    exact ⟨by rw [R.out]; rfl, rfl⟩

theorem freeValid_as {B n c : Nat} {A : Option Addr} {zs : List Int} {r : Bool} (h : frB zs = r) (w : World) (hr : RdI w B A n zs) (hn : n < 1099511627776) :
    Calls Try.prog 39 #[.slice A n c] w fun e w' => e = .returned (.bool r) ∧ w = w' := by
  subst h; exact freeValid_any w hr hn

set_option maxHeartbeats 400000 in
theorem sendersFit_any (z : Int) (w : World) :
    Calls Try.prog 40 #[.int .i64 z] w fun e w' => e = .returned (.bool (inB z 1 6)) ∧ w = w' := by
  by_cases h0 : 1 ≤ z
  · by_cases h9 : z ≤ 6
    · have R := hid (show inB z 1 6 = true from inB_true.2 ⟨by omega, by omega⟩)
      go_enter Try.func40, Try.ntmps40
      go_wp2
      go_ret
      exact ⟨by rw [R.out]; rfl, rfl⟩
    · have R := hid (show inB z 1 6 = false by rw [Bool.eq_false_iff]; intro e; have := inB_true.1 e; omega)
      go_enter Try.func40, Try.ntmps40
      go_wp2
      go_ret
      exact ⟨by rw [R.out]; rfl, rfl⟩
  · have R := hid (show inB z 1 6 = false by rw [Bool.eq_false_iff]; intro e; have := inB_true.1 e; omega)
    go_enter Try.func40, Try.ntmps40
    go_wp2
    go_ret
    exact ⟨by rw [R.out]; rfl, rfl⟩

theorem sendersFit_as {z : Int} {r : Bool} (h : inB z 1 6 = r) (w : World) :
    Calls Try.prog 40 #[.int .i64 z] w fun e w' => e = .returned (.bool r) ∧ w = w' := by
  subst h; exact sendersFit_any z w

/-- the closure of CreditsValid: its credits lie in block b -/
theorem badHold_any {b : Nat} {A1 A2 Ai : Option Addr} {n1 n2 c1 c2 m ci : Nat} {fr zs : List Int} (x : Int) (w : World) (hC : Cs w b 28 #[.slice A1 n1 c1, .slice A2 n2 c2]) (hf : frB fr = true) (hr : RdI w w.heap.size A1 n1 fr) (hs : RdI w w.heap.size Ai m zs) (hm : m < 1099511627776) :
    Calls Try.prog 44 #[hoV (.slice Ai m ci) x, .pointer (some ⟨b, 0, none⟩)] w fun e w' => e = .returned (.bool (!hoB fr (zs, x))) ∧ Below w.heap.size w w' := by
  obtain ⟨W, hW⟩ : ∃ W, w.alloc (.cells #[.slice Ai m ci, .int .i64 x] 33) = W := ⟨_, rfl⟩
  have hB := hid (show Below w.heap.size w W by rw [← hW]; exact below1 w _)
  have hD := hid (show Cs W w.heap.size 33 #[.slice Ai m ci, .int .i64 x] by rw [← hW]; exact Cs.new w _ _)
  have hE := hid (show Cs W b 28 #[.slice A1 n1 c1, .slice A2 n2 c2] by rw [← hW]; exact hC.alloc _)
  have hF := hid (show RdI W W.heap.size A1 n1 fr by rw [← hW]; exact (Reads.alloc hr (Nat.le_refl _) _).more (by simp))
  have hS := hid (show RdI W W.heap.size Ai m zs by rw [← hW]; exact (Reads.alloc hs (Nat.le_refl _) _).more (by simp))
  obtain ⟨d0, d1, -, -⟩ := hD.out.two
  obtain ⟨e0, e1, -, -⟩ := hE.out.two
  have hf' := hid hf
  replace hW := hid hW
  clear hr hs hC hf
  go_enter Try.func44, Try.ntmps44
  go_upto_region 1 with (fail)
  rw [hW.out]
  go_wp2_with fail
  refine (Hold_valid_any x _ hf'.out hF.out hS.out hm).mono ?_
  rintro e w1 ⟨rfl, hb⟩
  have hb' := hid (hB.out.trans (hb.mono hB.out.size))
  clear hb
  go_wp2
  go_ret
  exact ⟨rfl, hb'.out⟩
end Go.Proofs.Ytfcoobebebdniaa
