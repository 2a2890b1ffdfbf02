/-
  Contract of a batch's method size. Its items must exist, and be 1 to 99.
-/
import Derived.Test.YtikjcpbhleejnaaBtD
import Derived.Deep.RegionHeld3
namespace Go.Proofs.Ytikjcpbhleejnaa
open Go.RowKit

theorem slice_cut (ad : Addr) (n c a b : Nat) (h1 : a + b ≤ n) (hc : n ≤ c) :
    ∃ ad', (∀ W, (Instr.sliceAt 23 (.slice (some ad) n c) (some (.int .i64 (a : Int))) (some (.int .i64 ((a : Int) + (b : Int)))) none).run Try.prog W = .ok (.slice (some ad') b (c - a)) W) ∧ ∀ P w zs, RdI w P (some ad) n zs → RdI w P (some ad') b ((zs.drop a).take b) := by
  refine ⟨if c = a then ad else ad.add a, fun W => ?_, fun P w zs h => ?_⟩
  · rw [run_sliceAt_slice (P := Try.prog) W 23 _ _ _ _ (by kernel_rfl), run_slice_lh (P := Try.prog) W 23 _ _ _ (by kernel_rfl) _ _ _ _ (by omega) (by omega) (by omega)]
    rw [show (sizeOf (Try.prog.elem 23)).run Try.prog W = .ok 1 W from by kernel_rfl]
    have e : ((a : Int) + (b : Int)).toNat = a + b := by omega
    simp only [Result.andThen, sliced, e, Int.toNat_natCast, Nat.mul_one, Nat.add_sub_cancel_left]
    split <;> rfl
  · have hl := h.len
    refine ⟨by simp [ints, hl]; omega, fun hb => ?_⟩
    obtain ⟨ad2, e, hp, hcell⟩ := h.2 (by omega)
    injection e with e
    subst e
    have hne : ¬ c = a := by omega
    refine ⟨ad.add a, by rw [if_neg hne], by rw [block_of_add]; exact hp, fun j u hu => ?_⟩
    rw [add_of_add]
    refine hcell (a + j) u ?_
    rw [← hu]
    have hj : j < b := by
      have := (List.getElem?_eq_some_iff.1 hu).1
      simp [ints] at this; omega
    simp [ints, List.getElem?_drop, hj]

set_option maxHeartbeats 2000000 in
theorem size_any {P n c a b : Nat} {A : Option Addr} {zs : List Int} (w : World) (hr : RdI w P A n zs) (hP : P ≤ w.heap.size) (hn : n ≤ 20) (hc : n ≤ c) (hc2 : c ≤ maxLen) (hb : 1 ≤ b) (hab : a + b ≤ n) (h1 : ∀ z ∈ zs, 1 ≤ z ∧ z ≤ 99) :
    Calls Try.prog 29 #[btv a b, .slice A n c] w fun e w' => e = .returned (.int .i64 (tot ((zs.drop a).take b))) ∧ Below w.heap.size w w' := by
  unfold maxLen at hc2
  have hl' := hid hr.len
  obtain ⟨ad, hA, _, _⟩ := hr.2 (by omega)
  subst hA
  obtain ⟨ad', hs, hrd⟩ := slice_cut ad n c a b hab hc
  have hr' := hid hr
  have h1' := hid h1
  clear hr h1
  have hat := AtB.new w (a : Int) (b : Int)
  have c0 := hat.drew.c0
  have c1 := hat.drew.c1
  clear hat
  have hc01 := hid (And.intro c0 c1)
  clear c0 c1
  have hB0 := hid (below_box w (.cells #[.int .i64 (a : Int), .int .i64 (b : Int)] 47))
  have hB1 := hid (hB0.out.drew)
  have hsz1 : w.heap.size < (w.alloc (.cells #[.int .i64 (a : Int), .int .i64 (b : Int)] 47)).drew.heap.size := by
    show w.heap.size < (w.alloc _).heap.size
    simp
  have hrd' := hid hrd
  clear hrd
  have ha0 : (0 : Int) ≤ (a : Int) := by omega
  have hab0 : (0 : Int) ≤ (a : Int) + (b : Int) := by omega
  go_enter Try.func29, Try.ntmps29
  go_wp2_with fail
  go_region_held3 (fun w' => w'.cell? ⟨w.heap.size, 0, none⟩ = some (.int .i64 (a : Int)) ∧ w'.cell? ⟨w.heap.size, 1, none⟩ = some (.int .i64 (b : Int)) ∧ Hid (Below w.heap.size w w'))
    (first | with_reducible exact ⟨hc01.out.1, hc01.out.2, hB1⟩ | with_reducible exact hS5)
    (first | (go_at_call 28; (refine (end_any _ _ (by omega) (by omega) _).mono ?_); rintro e w5 ⟨rfl, hb5⟩; have hS5 := And.intro ((hb5.cell (p := ⟨w.heap.size, 0, none⟩) hsz1).trans hc01.out.1) (And.intro ((hb5.cell (p := ⟨w.heap.size, 1, none⟩) hsz1).trans hc01.out.2) (hid (hB1.out.trans (hb5.mono (Nat.le_of_lt hsz1)))))))
  obtain ⟨_, _, hB5⟩ := hS5
  have hr5 := hid (hrd'.out P w5 zs (hr'.out.keep fun p hp => hB5.out.cell (by omega)))
  clear hs hb5
  go_wp2
  go_loop [5, 15] (fun s i => ∃ (k : Nat) (t : Int), k ≤ b ∧ i = .int .i64 k ∧ s = .int .i64 t ∧ 0 ≤ t ∧ t ≤ 99 * k ∧ Hid (tot (((zs.drop a).take b).take k) = t)) (fun _ i => b - (intOf i).toNat)
  case atStart => exact ⟨0, 0, by omega, rfl, rfl, by omega, by omega, hid (by simp [tot])⟩
  case round =>
    obtain ⟨k, t, hk, rfl, rfl, ht0, ht1, ht⟩ := hrel
    by_cases hlt : k < b
    · obtain ⟨ad2, x, e2, hx, hcx⟩ := RdI.at' hr5.out hlt
      injection e2 with e2
      subst e2
      have hlen : k < ((zs.drop a).take b).length := by rw [hr5.out.len]; exact hlt
      have hmem := getD_mem' hlen
      rw [hx.out] at hmem
      obtain ⟨hx1, hx2⟩ := h1'.out x (List.mem_of_mem_drop (List.mem_of_mem_take hmem))
      have hs := hid (tot_take_succ hlen hx.out)
      rw [ht.out] at hs
      clear hx hmem hlen
      go_wp2
      go_round
      case rel => exact ⟨k + 1, t + x, by omega, by go_num, rfl, by omega, by omega, hs⟩
      case measure => simp [intOf]; omega
    · have hkb : k = b := by omega
      have hfin := hid (show tot ((zs.drop a).take b) = t by
        have := ht.out
        rw [List.take_of_length_le (by rw [hr5.out.len]; omega)] at this
        exact this)
      go_wp2
      go_ret
      exact ⟨ret_int (by rw [hfin.out]), hB5.out⟩
end Go.Proofs.Ytikjcpbhleejnaa
