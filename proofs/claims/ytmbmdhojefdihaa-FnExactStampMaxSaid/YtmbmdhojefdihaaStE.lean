/-
  Contracts of HybridMerge, of the model and of the program. No condition.
-/
import Derived.Test.YtmbmdhojefdihaaStD
namespace Go.Proofs.Ytmbmdhojefdihaa
open Go.RowKit

theorem cell_far (w : World) (p a : Addr) (v : Value) (h : p.block ≠ a.block) : (w.setCell p v).cell? a = w.cell? a := World.cell?_setCell_other w p a v (fun e => h (by rw [e]))

/-- the greater one of two hybrid times -/
def gW (x c y d : Int) : Int := if lexB x c y d then y else x

def gC (x c y d : Int) : Int := if lexB x c y d then d else c

theorem gW_lt {x c y d : Int} (h : lexB x c y d = true) : gW x c y d = y := by simp [gW, h]

theorem gC_lt {x c y d : Int} (h : lexB x c y d = true) : gC x c y d = d := by simp [gC, h]

theorem gW_ge {x c y d : Int} (h : lexB x c y d = false) : gW x c y d = x := by simp [gW, h]

theorem gC_ge {x c y d : Int} (h : lexB x c y d = false) : gC x c y d = c := by simp [gC, h]

def mOk (x c p y d : Int) : Bool := hyB x c && (hyB y d && tickOk (gW x c y d) (gC x c y d) p)

def mW (x c p y d : Int) : Int := if mOk x c p y d then tickW (gW x c y d) (gC x c y d) p else 0

def mC (x c p y d : Int) : Int := if mOk x c p y d then tickC (gW x c y d) (gC x c y d) p else 0

def MergeIs (x c p y d W C : Int) (o : Bool) : Prop := mW x c p y d = W ∧ mC x c p y d = C ∧ mOk x c p y d = o

theorem merge_no {x c p y d : Int} (h : hyB x c = false ∨ hyB y d = false ∨ inB p 0 999 = false) : MergeIs x c p y d 0 0 false := by
  have ho : mOk x c p y d = false := by
    rcases h with h | h | h
    · simp [mOk, h]
    · simp [mOk, h]
    · simp [mOk, tickOk, h]
  exact ⟨by simp [mW, ho], by simp [mC, ho], ho⟩
/-- both are valid: the greater one ticks -/
theorem merge_tick {x c p y d : Int} (h : hyB x c = true) (k : hyB y d = true) :
    MergeIs x c p y d (tickW (gW x c y d) (gC x c y d) p) (tickC (gW x c y d) (gC x c y d) p) (tickOk (gW x c y d) (gC x c y d) p) := by
  have ho : mOk x c p y d = tickOk (gW x c y d) (gC x c y d) p := by simp [mOk, h, k]
  refine ⟨?_, ?_, ho⟩
  · rw [mW, ho]; cases e : tickOk (gW x c y d) (gC x c y d) p <;> simp [tickW_no, e]
  · rw [mC, ho]; cases e : tickOk (gW x c y d) (gC x c y d) p <;> simp [tickC_no, e]
/-- the wall and the count before one more, where they are known -/
theorem merge_hi {x c p y d : Int} (h : hyB x c = true) (k : hyB y d = true) (hp : inB p 0 999 = true) (h1 : x < p) (h2 : y < p) : MergeIs x c p y d p 0 true := by
  have hg : gW x c y d < p := by unfold gW; split <;> assumption
  have hy : hyB (gW x c y d) (gC x c y d) = true := by unfold gW gC; cases lexB x c y d <;> assumption
  have ho : tickOk (gW x c y d) (gC x c y d) p = true := tickOk_true.2 (by have := inB_true.1 hp; exact ⟨hy, by omega, by omega, .inl hg⟩)
  have := merge_tick h k (p := p)
  rw [tickW_hi ho hg, tickC_hi ho hg, ho] at this
  exact this

theorem merge_lo {x c p y d W C : Int} (h : hyB x c = true) (k : hyB y d = true) (hp : inB p 0 999 = true) (h1 : x ≤ W) (h2 : y ≤ W) (h3 : p ≤ W)
    (h4 : (x = W ∧ C = c ∧ (y = W → d ≤ c)) ∨ (y = W ∧ C = d ∧ (x = W → c ≤ d))) :
    (C < 99 → MergeIs x c p y d W (C + 1) true) ∧ (C = 99 → MergeIs x c p y d 0 0 false) := by
  have hg : gW x c y d = W ∧ gC x c y d = C := by
    cases e : lexB x c y d with
    | true => rw [gW_lt e, gC_lt e]; rw [lexB_true] at e; omega
    | false => rw [gW_ge e, gC_ge e]; rw [lexB_false] at e; omega
  have hy : hyB W C = true := by
    rw [← hg.1, ← hg.2]; unfold gW gC; cases lexB x c y d <;> assumption
  have hq := inB_true.1 hp
  have hm := merge_tick h k (p := p)
  rw [hg.1, hg.2] at hm
  refine ⟨fun hc => ?_, fun hc => ?_⟩
  · have ho : tickOk W C p = true := tickOk_true.2 ⟨hy, by omega, by omega, .inr hc⟩
    rw [tickW_lo ho h3, tickC_lo ho h3, ho] at hm
    exact hm
  · have ho : tickOk W C p = false := tickOk_false.2 (by omega)
    rw [tickW_no ho, tickC_no ho, ho] at hm
    exact hm

abbrev MergePost (x c p y d : Int) (w : World) : Ending → World → Prop := fun e w' => e = .returned (.tuple #[two (mW x c p y d) (mC x c p y d), .bool (mOk x c p y d)]) ∧ Below w.heap.size w w'

set_option maxHeartbeats 1000000 in
theorem HybridMerge_spec1 (x c p y d : Int) (w : World) (h1 : hyB x c = false) :
    Calls Try.prog 29 #[two x c, .int .i64 p, two y d] w (MergePost x c p y d w) := by
  have R := hid (merge_no (x := x) (c := c) (p := p) (y := y) (d := d) (.inl h1))
  have h1' := hid h1
  clear h1
  go_enter Try.func29, Try.ntmps29
  go_wp2_with fail
  refine (HybridValid_spec _ _ _).mono ?_
  rw [h1'.out]
  rintro e w1 ⟨rfl, hb1⟩
  obtain ⟨hc1, hf1⟩ := bcell hb1
  have hs1 : w.heap.size + 2 < w1.heap.size := by have := hb1.size; simp at this; omega
  have hs1b : w.heap.size + 1 < w1.heap.size := by omega
  have hs1a : w.heap.size < w1.heap.size := by omega
  have hB1 := hid ((below3 w _ _ _).trans (hb1.mono (by simp; omega)))
  clear hb1
  have k0 : w1.cell? ⟨w.heap.size + 2, 0, none⟩ = some (.int .i64 0) := (hc1 _ _ (by simp)).trans (by simp [go_sem])
  have k1 : w1.cell? ⟨w.heap.size + 2, 1, none⟩ = some (.int .i64 0) := (hc1 _ _ (by simp)).trans (by simp [go_sem])
  have K1 := hid (And.intro k0 k1)
  clear k0 k1
  go_wp2
  refine bodyPost_ret (v := .tuple #[two (0) (0), .bool false]) (by simp [results, Try.results29, go_sem, K1.out.1, K1.out.2]) rfl ⟨?_, ((hB1.out).setCell (Nat.le_trans (Nat.le_add_right _ 1) (Nat.le_add_right _ 1)) _).setCell (Nat.le_trans (Nat.le_add_right _ 1) (Nat.le_add_right _ 1)) _⟩
  rw [R.out.1, R.out.2.1, R.out.2.2]

set_option maxHeartbeats 1000000 in
theorem HybridMerge_spec2 (x c p y d : Int) (w : World) (h1 : hyB x c = true) (h2 : hyB y d = false) :
    Calls Try.prog 29 #[two x c, .int .i64 p, two y d] w (MergePost x c p y d w) := by
  have R := hid (merge_no (x := x) (c := c) (p := p) (y := y) (d := d) (.inr (.inl h2)))
  have h1' := hid h1
  have h2' := hid h2
  clear h1 h2
  go_enter Try.func29, Try.ntmps29
  go_wp2_with fail
  refine (HybridValid_spec _ _ _).mono ?_
  rw [h1'.out]
  rintro e w1 ⟨rfl, hb1⟩
  obtain ⟨hc1, hf1⟩ := bcell hb1
  have hs1 : w.heap.size + 2 < w1.heap.size := by have := hb1.size; simp at this; omega
  have hs1b : w.heap.size + 1 < w1.heap.size := by omega
  have hs1a : w.heap.size < w1.heap.size := by omega
  have hB1 := hid ((below3 w _ _ _).trans (hb1.mono (by simp; omega)))
  clear hb1
  have k0 : w1.cell? ⟨w.heap.size + 2, 0, none⟩ = some (.int .i64 0) := (hc1 _ _ (by simp)).trans (by simp [go_sem])
  have k1 : w1.cell? ⟨w.heap.size + 2, 1, none⟩ = some (.int .i64 0) := (hc1 _ _ (by simp)).trans (by simp [go_sem])
  have K1 := hid (And.intro k0 k1)
  clear k0 k1
  go_wp2_with fail
  refine (HybridValid_spec _ _ _).mono ?_
  rw [h2'.out]
  rintro e w2 ⟨rfl, hb2⟩
  obtain ⟨hc2, hf2⟩ := bcell hb2
  have hs2 : w.heap.size + 2 < w2.heap.size := by have := hb2.size; omega
  have hs2b : w.heap.size + 1 < w2.heap.size := by omega
  have hs2a : w.heap.size < w2.heap.size := by omega
  have hB2 := hid (hB1.out.trans (hb2.mono (by omega)))
  clear hb2
  have k0 : w2.cell? ⟨w.heap.size + 2, 0, none⟩ = some (.int .i64 0) := (hc2 _ _ (by omega)).trans K1.out.1
  have k1 : w2.cell? ⟨w.heap.size + 2, 1, none⟩ = some (.int .i64 0) := (hc2 _ _ (by omega)).trans K1.out.2
  have K2 := hid (And.intro k0 k1)
  clear k0 k1
  go_wp2
  refine bodyPost_ret (v := .tuple #[two (0) (0), .bool false]) (by simp [results, Try.results29, go_sem, K2.out.1, K2.out.2]) rfl ⟨?_, ((hB2.out).setCell (Nat.le_trans (Nat.le_add_right _ 1) (Nat.le_add_right _ 1)) _).setCell (Nat.le_trans (Nat.le_add_right _ 1) (Nat.le_add_right _ 1)) _⟩
  rw [R.out.1, R.out.2.1, R.out.2.2]

set_option maxHeartbeats 1000000 in
theorem HybridMerge_impl1 (x c p y d : Int) (w : World) (h1 : hyB x c = false) :
    Calls Try.prog 30 #[two x c, .int .i64 p, two y d] w (MergePost x c p y d w) := by
  have R := hid (merge_no (x := x) (c := c) (p := p) (y := y) (d := d) (.inl h1))
  have h1' := hid h1
  clear h1
  go_enter Try.func30, Try.ntmps30
  go_wp2_with fail
  refine (HybridValid_impl _ _ _).mono ?_
  rw [h1'.out]
  rintro e w1 ⟨rfl, hb1⟩
  obtain ⟨hc1, hf1⟩ := bcell hb1
  have hs1 : w.heap.size + 2 < w1.heap.size := by have := hb1.size; simp at this; omega
  have hs1b : w.heap.size + 1 < w1.heap.size := by omega
  have hs1a : w.heap.size < w1.heap.size := by omega
  have hB1 := hid ((below3 w _ _ _).trans (hb1.mono (by simp; omega)))
  clear hb1
  have k0 : w1.cell? ⟨w.heap.size + 2, 0, none⟩ = some (.int .i64 0) := (hc1 _ _ (by simp)).trans (by simp [go_sem])
  have k1 : w1.cell? ⟨w.heap.size + 2, 1, none⟩ = some (.int .i64 0) := (hc1 _ _ (by simp)).trans (by simp [go_sem])
  have K1 := hid (And.intro k0 k1)
  clear k0 k1
  go_wp2
  refine bodyPost_ret (v := .tuple #[two (0) (0), .bool false]) (by simp [results, Try.results30, go_sem, K1.out.1, K1.out.2]) rfl ⟨?_, ((hB1.out).setCell (Nat.le_trans (Nat.le_add_right _ 1) (Nat.le_add_right _ 1)) _).setCell (Nat.le_trans (Nat.le_add_right _ 1) (Nat.le_add_right _ 1)) _⟩
  rw [R.out.1, R.out.2.1, R.out.2.2]

set_option maxHeartbeats 1000000 in
theorem HybridMerge_impl2 (x c p y d : Int) (w : World) (h1 : hyB x c = true) (h2 : hyB y d = false) :
    Calls Try.prog 30 #[two x c, .int .i64 p, two y d] w (MergePost x c p y d w) := by
  have R := hid (merge_no (x := x) (c := c) (p := p) (y := y) (d := d) (.inr (.inl h2)))
  have h1' := hid h1
  have h2' := hid h2
  clear h1 h2
  go_enter Try.func30, Try.ntmps30
  go_wp2_with fail
  refine (HybridValid_impl _ _ _).mono ?_
  rw [h1'.out]
  rintro e w1 ⟨rfl, hb1⟩
  obtain ⟨hc1, hf1⟩ := bcell hb1
  have hs1 : w.heap.size + 2 < w1.heap.size := by have := hb1.size; simp at this; omega
  have hs1b : w.heap.size + 1 < w1.heap.size := by omega
  have hs1a : w.heap.size < w1.heap.size := by omega
  have hB1 := hid ((below3 w _ _ _).trans (hb1.mono (by simp; omega)))
  clear hb1
  have k0 : w1.cell? ⟨w.heap.size + 2, 0, none⟩ = some (.int .i64 0) := (hc1 _ _ (by simp)).trans (by simp [go_sem])
  have k1 : w1.cell? ⟨w.heap.size + 2, 1, none⟩ = some (.int .i64 0) := (hc1 _ _ (by simp)).trans (by simp [go_sem])
  have K1 := hid (And.intro k0 k1)
  clear k0 k1
  go_wp2_with fail
  refine (HybridValid_impl _ _ _).mono ?_
  rw [h2'.out]
  rintro e w2 ⟨rfl, hb2⟩
  obtain ⟨hc2, hf2⟩ := bcell hb2
  have hs2 : w.heap.size + 2 < w2.heap.size := by have := hb2.size; omega
  have hs2b : w.heap.size + 1 < w2.heap.size := by omega
  have hs2a : w.heap.size < w2.heap.size := by omega
  have hB2 := hid (hB1.out.trans (hb2.mono (by omega)))
  clear hb2
  have k0 : w2.cell? ⟨w.heap.size + 2, 0, none⟩ = some (.int .i64 0) := (hc2 _ _ (by omega)).trans K1.out.1
  have k1 : w2.cell? ⟨w.heap.size + 2, 1, none⟩ = some (.int .i64 0) := (hc2 _ _ (by omega)).trans K1.out.2
  have K2 := hid (And.intro k0 k1)
  clear k0 k1
  go_wp2
  refine bodyPost_ret (v := .tuple #[two (0) (0), .bool false]) (by simp [results, Try.results30, go_sem, K2.out.1, K2.out.2]) rfl ⟨?_, ((hB2.out).setCell (Nat.le_trans (Nat.le_add_right _ 1) (Nat.le_add_right _ 1)) _).setCell (Nat.le_trans (Nat.le_add_right _ 1) (Nat.le_add_right _ 1)) _⟩
  rw [R.out.1, R.out.2.1, R.out.2.2]

set_option maxHeartbeats 1000000 in
theorem HybridMerge_spec3 (x c p y d : Int) (w : World) (h1 : hyB x c = true) (h2 : hyB y d = true) (hp : inB p 0 999 = false) :
    Calls Try.prog 29 #[two x c, .int .i64 p, two y d] w (MergePost x c p y d w) := by
  have R := hid (merge_no (x := x) (c := c) (p := p) (y := y) (d := d) (.inr (.inr hp)))
  have h1' := hid h1
  have h2' := hid h2
  have hp' := hid hp
  clear h1 h2 hp
  go_enter Try.func29, Try.ntmps29
  go_wp2_with fail
  refine (HybridValid_spec _ _ _).mono ?_
  rw [h1'.out]
  rintro e w1 ⟨rfl, hb1⟩
  obtain ⟨hc1, hf1⟩ := bcell hb1
  have hs1 : w.heap.size + 2 < w1.heap.size := by have := hb1.size; simp at this; omega
  have hs1b : w.heap.size + 1 < w1.heap.size := by omega
  have hs1a : w.heap.size < w1.heap.size := by omega
  have hB1 := hid ((below3 w _ _ _).trans (hb1.mono (by simp; omega)))
  clear hb1
  have k0 : w1.cell? ⟨w.heap.size + 2, 0, none⟩ = some (.int .i64 0) := (hc1 _ _ (by simp)).trans (by simp [go_sem])
  have k1 : w1.cell? ⟨w.heap.size + 2, 1, none⟩ = some (.int .i64 0) := (hc1 _ _ (by simp)).trans (by simp [go_sem])
  have K1 := hid (And.intro k0 k1)
  clear k0 k1
  go_wp2_with fail
  refine (HybridValid_spec _ _ _).mono ?_
  rw [h2'.out]
  rintro e w2 ⟨rfl, hb2⟩
  obtain ⟨hc2, hf2⟩ := bcell hb2
  have hs2 : w.heap.size + 2 < w2.heap.size := by have := hb2.size; omega
  have hs2b : w.heap.size + 1 < w2.heap.size := by omega
  have hs2a : w.heap.size < w2.heap.size := by omega
  have hB2 := hid (hB1.out.trans (hb2.mono (by omega)))
  clear hb2
  have k0 : w2.cell? ⟨w.heap.size + 2, 0, none⟩ = some (.int .i64 0) := (hc2 _ _ (by omega)).trans K1.out.1
  have k1 : w2.cell? ⟨w.heap.size + 2, 1, none⟩ = some (.int .i64 0) := (hc2 _ _ (by omega)).trans K1.out.2
  have K2 := hid (And.intro k0 k1)
  clear k0 k1
  go_wp2_with fail
  refine (l2Time_any _ _).mono ?_
  rw [hp'.out]
  rintro e w3 ⟨rfl, rfl⟩
  go_wp2
  refine bodyPost_ret (v := .tuple #[two (0) (0), .bool false]) (by simp [results, Try.results29, go_sem, K2.out.1, K2.out.2]) rfl ⟨?_, ((hB2.out).setCell (Nat.le_trans (Nat.le_add_right _ 1) (Nat.le_add_right _ 1)) _).setCell (Nat.le_trans (Nat.le_add_right _ 1) (Nat.le_add_right _ 1)) _⟩
  rw [R.out.1, R.out.2.1, R.out.2.2]

set_option maxHeartbeats 1000000 in
theorem HybridMerge_specA (x c p y d : Int) (w : World) (h1 : hyB x c = true) (h2 : hyB y d = true) (hp : inB p 0 999 = true) (k1 : x < p) (k2 : y < p) :
    Calls Try.prog 29 #[two x c, .int .i64 p, two y d] w (MergePost x c p y d w) := by
  have b1 := hyB_true.1 h1
  have b2 := hyB_true.1 h2
  have bp := inB_true.1 hp
  have R := hid (merge_hi h1 h2 hp k1 k2)
  have hv := hid (show hyB p 0 = true from hyB_true.2 (by omega))
  have h1' := hid h1
  have h2' := hid h2
  have hp' := hid hp
  have bc : 0 ≤ c := by omega
  have bd : 0 ≤ d := by omega
  have bc2 : c ≤ 99 := by omega
  have bd2 : d ≤ 99 := by omega
  clear h1 h2 hp b1 b2 bp
  go_enter Try.func29, Try.ntmps29
  go_wp2_with fail
  refine (HybridValid_spec _ _ _).mono ?_
  rw [h1'.out]
  rintro e w1 ⟨rfl, hb1⟩
  obtain ⟨hc1, hf1⟩ := bcell hb1
  have hs1 : w.heap.size + 2 < w1.heap.size := by have := hb1.size; simp at this; omega
  have hs1b : w.heap.size + 1 < w1.heap.size := by omega
  have hs1a : w.heap.size < w1.heap.size := by omega
  have hB1 := hid ((below3 w _ _ _).trans (hb1.mono (by simp; omega)))
  clear hb1
  have k0 : w1.cell? ⟨w.heap.size + 2, 0, none⟩ = some (.int .i64 0) := (hc1 _ _ (by simp)).trans (by simp [go_sem])
  have k1 : w1.cell? ⟨w.heap.size + 2, 1, none⟩ = some (.int .i64 0) := (hc1 _ _ (by simp)).trans (by simp [go_sem])
  have K1 := hid (And.intro k0 k1)
  clear k0 k1
  go_wp2_with fail
  refine (HybridValid_spec _ _ _).mono ?_
  rw [h2'.out]
  rintro e w2 ⟨rfl, hb2⟩
  obtain ⟨hc2, hf2⟩ := bcell hb2
  have hs2 : w.heap.size + 2 < w2.heap.size := by have := hb2.size; omega
  have hs2b : w.heap.size + 1 < w2.heap.size := by omega
  have hs2a : w.heap.size < w2.heap.size := by omega
  have hB2 := hid (hB1.out.trans (hb2.mono (by omega)))
  clear hb2
  have k0 : w2.cell? ⟨w.heap.size + 2, 0, none⟩ = some (.int .i64 0) := (hc2 _ _ (by omega)).trans K1.out.1
  have k1 : w2.cell? ⟨w.heap.size + 2, 1, none⟩ = some (.int .i64 0) := (hc2 _ _ (by omega)).trans K1.out.2
  have K2 := hid (And.intro k0 k1)
  clear k0 k1
  go_wp2_with fail
  refine (l2Time_any _ _).mono ?_
  rw [hp'.out]
  rintro e w3 ⟨rfl, rfl⟩
  go_wp2_with fail
  refine (l2Hybrid_yes _ _ _ hv.out).mono ?_
  rintro e w3 ⟨rfl, hb3⟩
  obtain ⟨hc3, hf3⟩ := bcell hb3
  have hB3 := hid (hB2.out.trans (hb3.mono (by omega)))
  clear hb3
  have k0 : w3.cell? ⟨w.heap.size + 2, 0, none⟩ = some (.int .i64 0) := (hc3 _ _ (by omega)).trans K2.out.1
  have k1 : w3.cell? ⟨w.heap.size + 2, 1, none⟩ = some (.int .i64 0) := (hc3 _ _ (by omega)).trans K2.out.2
  have K3 := hid (And.intro k0 k1)
  clear k0 k1
  go_wp2
  refine bodyPost_ret (v := .tuple #[two (p) (0), .bool true]) (by simp [results, Try.results29, go_sem, K3.out.1, K3.out.2]) rfl ⟨?_, ((hB3.out).setCell (Nat.le_trans (Nat.le_add_right _ 1) (Nat.le_add_right _ 1)) _).setCell (Nat.le_trans (Nat.le_add_right _ 1) (Nat.le_add_right _ 1)) _⟩
  rw [R.out.1, R.out.2.1, R.out.2.2]

set_option maxHeartbeats 1000000 in
theorem HybridMerge_specB (x c p y d : Int) (w : World) (h1 : hyB x c = true) (h2 : hyB y d = true) (hp : inB p 0 999 = true) (k1 : y < x) (k2 : p ≤ x) (k3 : c < 99) :
    Calls Try.prog 29 #[two x c, .int .i64 p, two y d] w (MergePost x c p y d w) := by
  have b1 := hyB_true.1 h1
  have b2 := hyB_true.1 h2
  have bp := inB_true.1 hp
  have R := hid ((merge_lo (W := x) (C := c) h1 h2 hp (by omega) (by omega) (by omega) (.inl ⟨rfl, rfl, fun h => by omega⟩)).1 k3)
  have hv := hid (show hyB x (c + 1) = true from hyB_true.2 (by omega))
  have h1' := hid h1
  have h2' := hid h2
  have hp' := hid hp
  have bc : 0 ≤ c := by omega
  have bd : 0 ≤ d := by omega
  have bc2 : c ≤ 99 := by omega
  have bd2 : d ≤ 99 := by omega
  clear h1 h2 hp b1 b2 bp
  go_enter Try.func29, Try.ntmps29
  go_wp2_with fail
  refine (HybridValid_spec _ _ _).mono ?_
  rw [h1'.out]
  rintro e w1 ⟨rfl, hb1⟩
  obtain ⟨hc1, hf1⟩ := bcell hb1
  have hs1 : w.heap.size + 2 < w1.heap.size := by have := hb1.size; simp at this; omega
  have hs1b : w.heap.size + 1 < w1.heap.size := by omega
  have hs1a : w.heap.size < w1.heap.size := by omega
  have hB1 := hid ((below3 w _ _ _).trans (hb1.mono (by simp; omega)))
  clear hb1
  have k0 : w1.cell? ⟨w.heap.size + 2, 0, none⟩ = some (.int .i64 0) := (hc1 _ _ (by simp)).trans (by simp [go_sem])
  have k1 : w1.cell? ⟨w.heap.size + 2, 1, none⟩ = some (.int .i64 0) := (hc1 _ _ (by simp)).trans (by simp [go_sem])
  have K1 := hid (And.intro k0 k1)
  clear k0 k1
  go_wp2_with fail
  refine (HybridValid_spec _ _ _).mono ?_
  rw [h2'.out]
  rintro e w2 ⟨rfl, hb2⟩
  obtain ⟨hc2, hf2⟩ := bcell hb2
  have hs2 : w.heap.size + 2 < w2.heap.size := by have := hb2.size; omega
  have hs2b : w.heap.size + 1 < w2.heap.size := by omega
  have hs2a : w.heap.size < w2.heap.size := by omega
  have hB2 := hid (hB1.out.trans (hb2.mono (by omega)))
  clear hb2
  have k0 : w2.cell? ⟨w.heap.size + 2, 0, none⟩ = some (.int .i64 0) := (hc2 _ _ (by omega)).trans K1.out.1
  have k1 : w2.cell? ⟨w.heap.size + 2, 1, none⟩ = some (.int .i64 0) := (hc2 _ _ (by omega)).trans K1.out.2
  have K2 := hid (And.intro k0 k1)
  clear k0 k1
  go_wp2_with fail
  refine (l2Time_any _ _).mono ?_
  rw [hp'.out]
  rintro e w3 ⟨rfl, rfl⟩
  go_wp2_with fail
  refine (l2Hybrid_yes _ _ _ hv.out).mono ?_
  rintro e w3 ⟨rfl, hb3⟩
  obtain ⟨hc3, hf3⟩ := bcell hb3
  have hB3 := hid (hB2.out.trans (hb3.mono (by omega)))
  clear hb3
  have k0 : w3.cell? ⟨w.heap.size + 2, 0, none⟩ = some (.int .i64 0) := (hc3 _ _ (by omega)).trans K2.out.1
  have k1 : w3.cell? ⟨w.heap.size + 2, 1, none⟩ = some (.int .i64 0) := (hc3 _ _ (by omega)).trans K2.out.2
  have K3 := hid (And.intro k0 k1)
  clear k0 k1
  go_wp2
  refine bodyPost_ret (v := .tuple #[two (x) (c + 1), .bool true]) (by simp [results, Try.results29, go_sem, K3.out.1, K3.out.2]) rfl ⟨?_, ((hB3.out).setCell (Nat.le_trans (Nat.le_add_right _ 1) (Nat.le_add_right _ 1)) _).setCell (Nat.le_trans (Nat.le_add_right _ 1) (Nat.le_add_right _ 1)) _⟩
  rw [R.out.1, R.out.2.1, R.out.2.2]

set_option maxHeartbeats 1000000 in
theorem HybridMerge_specBo (x c p y d : Int) (w : World) (h1 : hyB x c = true) (h2 : hyB y d = true) (hp : inB p 0 999 = true) (k1 : y < x) (k2 : p ≤ x) (k3 : 99 ≤ c) :
    Calls Try.prog 29 #[two x c, .int .i64 p, two y d] w (MergePost x c p y d w) := by
  have b1 := hyB_true.1 h1
  have b2 := hyB_true.1 h2
  have bp := inB_true.1 hp
  have R := hid ((merge_lo (W := x) (C := c) h1 h2 hp (by omega) (by omega) (by omega) (.inl ⟨rfl, rfl, fun h => by omega⟩)).2 (by omega))
  have hv := hid (show hyB x (c + 1) = false from hyB_false.2 (by omega))
  have h1' := hid h1
  have h2' := hid h2
  have hp' := hid hp
  have bc : 0 ≤ c := by omega
  have bd : 0 ≤ d := by omega
  have bc2 : c ≤ 99 := by omega
  have bd2 : d ≤ 99 := by omega
  clear h1 h2 hp b1 b2 bp
  go_enter Try.func29, Try.ntmps29
  go_wp2_with fail
  refine (HybridValid_spec _ _ _).mono ?_
  rw [h1'.out]
  rintro e w1 ⟨rfl, hb1⟩
  obtain ⟨hc1, hf1⟩ := bcell hb1
  have hs1 : w.heap.size + 2 < w1.heap.size := by have := hb1.size; simp at this; omega
  have hs1b : w.heap.size + 1 < w1.heap.size := by omega
  have hs1a : w.heap.size < w1.heap.size := by omega
  have hB1 := hid ((below3 w _ _ _).trans (hb1.mono (by simp; omega)))
  clear hb1
  have k0 : w1.cell? ⟨w.heap.size + 2, 0, none⟩ = some (.int .i64 0) := (hc1 _ _ (by simp)).trans (by simp [go_sem])
  have k1 : w1.cell? ⟨w.heap.size + 2, 1, none⟩ = some (.int .i64 0) := (hc1 _ _ (by simp)).trans (by simp [go_sem])
  have K1 := hid (And.intro k0 k1)
  clear k0 k1
  go_wp2_with fail
  refine (HybridValid_spec _ _ _).mono ?_
  rw [h2'.out]
  rintro e w2 ⟨rfl, hb2⟩
  obtain ⟨hc2, hf2⟩ := bcell hb2
  have hs2 : w.heap.size + 2 < w2.heap.size := by have := hb2.size; omega
  have hs2b : w.heap.size + 1 < w2.heap.size := by omega
  have hs2a : w.heap.size < w2.heap.size := by omega
  have hB2 := hid (hB1.out.trans (hb2.mono (by omega)))
  clear hb2
  have k0 : w2.cell? ⟨w.heap.size + 2, 0, none⟩ = some (.int .i64 0) := (hc2 _ _ (by omega)).trans K1.out.1
  have k1 : w2.cell? ⟨w.heap.size + 2, 1, none⟩ = some (.int .i64 0) := (hc2 _ _ (by omega)).trans K1.out.2
  have K2 := hid (And.intro k0 k1)
  clear k0 k1
  go_wp2_with fail
  refine (l2Time_any _ _).mono ?_
  rw [hp'.out]
  rintro e w3 ⟨rfl, rfl⟩
  go_wp2_with fail
  refine (l2Hybrid_no _ _ _ hv.out).mono ?_
  rintro e w3 ⟨rfl, hb3⟩
  obtain ⟨hc3, hf3⟩ := bcell hb3
  have hB3 := hid (hB2.out.trans (hb3.mono (by omega)))
  clear hb3
  have k0 : w3.cell? ⟨w.heap.size + 2, 0, none⟩ = some (.int .i64 0) := (hc3 _ _ (by omega)).trans K2.out.1
  have k1 : w3.cell? ⟨w.heap.size + 2, 1, none⟩ = some (.int .i64 0) := (hc3 _ _ (by omega)).trans K2.out.2
  have K3 := hid (And.intro k0 k1)
  clear k0 k1
  go_wp2
  refine bodyPost_ret (v := .tuple #[two (0) (0), .bool false]) (by simp [results, Try.results29, go_sem, K3.out.1, K3.out.2]) rfl ⟨?_, ((hB3.out).setCell (Nat.le_trans (Nat.le_add_right _ 1) (Nat.le_add_right _ 1)) _).setCell (Nat.le_trans (Nat.le_add_right _ 1) (Nat.le_add_right _ 1)) _⟩
  rw [R.out.1, R.out.2.1, R.out.2.2]

set_option maxHeartbeats 1000000 in
theorem HybridMerge_specC (x c p y d : Int) (w : World) (h1 : hyB x c = true) (h2 : hyB y d = true) (hp : inB p 0 999 = true) (k1 : x < y) (k2 : p ≤ y) (k3 : d < 99) :
    Calls Try.prog 29 #[two x c, .int .i64 p, two y d] w (MergePost x c p y d w) := by
  have b1 := hyB_true.1 h1
  have b2 := hyB_true.1 h2
  have bp := inB_true.1 hp
  have R := hid ((merge_lo (W := y) (C := d) h1 h2 hp (by omega) (by omega) (by omega) (.inr ⟨rfl, rfl, fun h => by omega⟩)).1 k3)
  have hv := hid (show hyB y (d + 1) = true from hyB_true.2 (by omega))
  have h1' := hid h1
  have h2' := hid h2
  have hp' := hid hp
  have bc : 0 ≤ c := by omega
  have bd : 0 ≤ d := by omega
  have bc2 : c ≤ 99 := by omega
  have bd2 : d ≤ 99 := by omega
  clear h1 h2 hp b1 b2 bp
  go_enter Try.func29, Try.ntmps29
  go_wp2_with fail
  refine (HybridValid_spec _ _ _).mono ?_
  rw [h1'.out]
  rintro e w1 ⟨rfl, hb1⟩
  obtain ⟨hc1, hf1⟩ := bcell hb1
  have hs1 : w.heap.size + 2 < w1.heap.size := by have := hb1.size; simp at this; omega
  have hs1b : w.heap.size + 1 < w1.heap.size := by omega
  have hs1a : w.heap.size < w1.heap.size := by omega
  have hB1 := hid ((below3 w _ _ _).trans (hb1.mono (by simp; omega)))
  clear hb1
  have k0 : w1.cell? ⟨w.heap.size + 2, 0, none⟩ = some (.int .i64 0) := (hc1 _ _ (by simp)).trans (by simp [go_sem])
  have k1 : w1.cell? ⟨w.heap.size + 2, 1, none⟩ = some (.int .i64 0) := (hc1 _ _ (by simp)).trans (by simp [go_sem])
  have K1 := hid (And.intro k0 k1)
  clear k0 k1
  go_wp2_with fail
  refine (HybridValid_spec _ _ _).mono ?_
  rw [h2'.out]
  rintro e w2 ⟨rfl, hb2⟩
  obtain ⟨hc2, hf2⟩ := bcell hb2
  have hs2 : w.heap.size + 2 < w2.heap.size := by have := hb2.size; omega
  have hs2b : w.heap.size + 1 < w2.heap.size := by omega
  have hs2a : w.heap.size < w2.heap.size := by omega
  have hB2 := hid (hB1.out.trans (hb2.mono (by omega)))
  clear hb2
  have k0 : w2.cell? ⟨w.heap.size + 2, 0, none⟩ = some (.int .i64 0) := (hc2 _ _ (by omega)).trans K1.out.1
  have k1 : w2.cell? ⟨w.heap.size + 2, 1, none⟩ = some (.int .i64 0) := (hc2 _ _ (by omega)).trans K1.out.2
  have K2 := hid (And.intro k0 k1)
  clear k0 k1
  go_wp2_with fail
  refine (l2Time_any _ _).mono ?_
  rw [hp'.out]
  rintro e w3 ⟨rfl, rfl⟩
  go_wp2_with fail
  refine (l2Hybrid_yes _ _ _ hv.out).mono ?_
  rintro e w3 ⟨rfl, hb3⟩
  obtain ⟨hc3, hf3⟩ := bcell hb3
  have hB3 := hid (hB2.out.trans (hb3.mono (by omega)))
  clear hb3
  have k0 : w3.cell? ⟨w.heap.size + 2, 0, none⟩ = some (.int .i64 0) := (hc3 _ _ (by omega)).trans K2.out.1
  have k1 : w3.cell? ⟨w.heap.size + 2, 1, none⟩ = some (.int .i64 0) := (hc3 _ _ (by omega)).trans K2.out.2
  have K3 := hid (And.intro k0 k1)
  clear k0 k1
  go_wp2
  refine bodyPost_ret (v := .tuple #[two (y) (d + 1), .bool true]) (by simp [results, Try.results29, go_sem, K3.out.1, K3.out.2]) rfl ⟨?_, ((hB3.out).setCell (Nat.le_trans (Nat.le_add_right _ 1) (Nat.le_add_right _ 1)) _).setCell (Nat.le_trans (Nat.le_add_right _ 1) (Nat.le_add_right _ 1)) _⟩
  rw [R.out.1, R.out.2.1, R.out.2.2]

set_option maxHeartbeats 1000000 in
theorem HybridMerge_specCo (x c p y d : Int) (w : World) (h1 : hyB x c = true) (h2 : hyB y d = true) (hp : inB p 0 999 = true) (k1 : x < y) (k2 : p ≤ y) (k3 : 99 ≤ d) :
    Calls Try.prog 29 #[two x c, .int .i64 p, two y d] w (MergePost x c p y d w) := by
  have b1 := hyB_true.1 h1
  have b2 := hyB_true.1 h2
  have bp := inB_true.1 hp
  have R := hid ((merge_lo (W := y) (C := d) h1 h2 hp (by omega) (by omega) (by omega) (.inr ⟨rfl, rfl, fun h => by omega⟩)).2 (by omega))
  have hv := hid (show hyB y (d + 1) = false from hyB_false.2 (by omega))
  have h1' := hid h1
  have h2' := hid h2
  have hp' := hid hp
  have bc : 0 ≤ c := by omega
  have bd : 0 ≤ d := by omega
  have bc2 : c ≤ 99 := by omega
  have bd2 : d ≤ 99 := by omega
  clear h1 h2 hp b1 b2 bp
  go_enter Try.func29, Try.ntmps29
  go_wp2_with fail
  refine (HybridValid_spec _ _ _).mono ?_
  rw [h1'.out]
  rintro e w1 ⟨rfl, hb1⟩
  obtain ⟨hc1, hf1⟩ := bcell hb1
  have hs1 : w.heap.size + 2 < w1.heap.size := by have := hb1.size; simp at this; omega
  have hs1b : w.heap.size + 1 < w1.heap.size := by omega
  have hs1a : w.heap.size < w1.heap.size := by omega
  have hB1 := hid ((below3 w _ _ _).trans (hb1.mono (by simp; omega)))
  clear hb1
  have k0 : w1.cell? ⟨w.heap.size + 2, 0, none⟩ = some (.int .i64 0) := (hc1 _ _ (by simp)).trans (by simp [go_sem])
  have k1 : w1.cell? ⟨w.heap.size + 2, 1, none⟩ = some (.int .i64 0) := (hc1 _ _ (by simp)).trans (by simp [go_sem])
  have K1 := hid (And.intro k0 k1)
  clear k0 k1
  go_wp2_with fail
  refine (HybridValid_spec _ _ _).mono ?_
  rw [h2'.out]
  rintro e w2 ⟨rfl, hb2⟩
  obtain ⟨hc2, hf2⟩ := bcell hb2
  have hs2 : w.heap.size + 2 < w2.heap.size := by have := hb2.size; omega
  have hs2b : w.heap.size + 1 < w2.heap.size := by omega
  have hs2a : w.heap.size < w2.heap.size := by omega
  have hB2 := hid (hB1.out.trans (hb2.mono (by omega)))
  clear hb2
  have k0 : w2.cell? ⟨w.heap.size + 2, 0, none⟩ = some (.int .i64 0) := (hc2 _ _ (by omega)).trans K1.out.1
  have k1 : w2.cell? ⟨w.heap.size + 2, 1, none⟩ = some (.int .i64 0) := (hc2 _ _ (by omega)).trans K1.out.2
  have K2 := hid (And.intro k0 k1)
  clear k0 k1
  go_wp2_with fail
  refine (l2Time_any _ _).mono ?_
  rw [hp'.out]
  rintro e w3 ⟨rfl, rfl⟩
  go_wp2_with fail
  refine (l2Hybrid_no _ _ _ hv.out).mono ?_
  rintro e w3 ⟨rfl, hb3⟩
  obtain ⟨hc3, hf3⟩ := bcell hb3
  have hB3 := hid (hB2.out.trans (hb3.mono (by omega)))
  clear hb3
  have k0 : w3.cell? ⟨w.heap.size + 2, 0, none⟩ = some (.int .i64 0) := (hc3 _ _ (by omega)).trans K2.out.1
  have k1 : w3.cell? ⟨w.heap.size + 2, 1, none⟩ = some (.int .i64 0) := (hc3 _ _ (by omega)).trans K2.out.2
  have K3 := hid (And.intro k0 k1)
  clear k0 k1
  go_wp2
  refine bodyPost_ret (v := .tuple #[two (0) (0), .bool false]) (by simp [results, Try.results29, go_sem, K3.out.1, K3.out.2]) rfl ⟨?_, ((hB3.out).setCell (Nat.le_trans (Nat.le_add_right _ 1) (Nat.le_add_right _ 1)) _).setCell (Nat.le_trans (Nat.le_add_right _ 1) (Nat.le_add_right _ 1)) _⟩
  rw [R.out.1, R.out.2.1, R.out.2.2]

set_option maxHeartbeats 1000000 in
theorem HybridMerge_specD (x c p y d : Int) (w : World) (h1 : hyB x c = true) (h2 : hyB y d = true) (hp : inB p 0 999 = true) (k0 : y = x) (k1 : d ≤ c) (k2 : p ≤ x) (k3 : c < 99) :
    Calls Try.prog 29 #[two x c, .int .i64 p, two y d] w (MergePost x c p y d w) := by
  have b1 := hyB_true.1 h1
  have b2 := hyB_true.1 h2
  have bp := inB_true.1 hp
  have R := hid ((merge_lo (W := x) (C := c) h1 h2 hp (by omega) (by omega) (by omega) (.inl ⟨rfl, rfl, fun h => k1⟩)).1 k3)
  have hv := hid (show hyB x (c + 1) = true from hyB_true.2 (by omega))
  subst k0
  have h1' := hid h1
  have h2' := hid h2
  have hp' := hid hp
  have bc : 0 ≤ c := by omega
  have bd : 0 ≤ d := by omega
  have bc2 : c ≤ 99 := by omega
  have bd2 : d ≤ 99 := by omega
  clear h1 h2 hp b1 b2 bp
  go_enter Try.func29, Try.ntmps29
  go_wp2_with fail
  refine (HybridValid_spec _ _ _).mono ?_
  rw [h1'.out]
  rintro e w1 ⟨rfl, hb1⟩
  obtain ⟨hc1, hf1⟩ := bcell hb1
  have hs1 : w.heap.size + 2 < w1.heap.size := by have := hb1.size; simp at this; omega
  have hs1b : w.heap.size + 1 < w1.heap.size := by omega
  have hs1a : w.heap.size < w1.heap.size := by omega
  have hB1 := hid ((below3 w _ _ _).trans (hb1.mono (by simp; omega)))
  clear hb1
  have k0 : w1.cell? ⟨w.heap.size + 2, 0, none⟩ = some (.int .i64 0) := (hc1 _ _ (by simp)).trans (by simp [go_sem])
  have k1 : w1.cell? ⟨w.heap.size + 2, 1, none⟩ = some (.int .i64 0) := (hc1 _ _ (by simp)).trans (by simp [go_sem])
  have K1 := hid (And.intro k0 k1)
  clear k0 k1
  go_wp2_with fail
  refine (HybridValid_spec _ _ _).mono ?_
  rw [h2'.out]
  rintro e w2 ⟨rfl, hb2⟩
  obtain ⟨hc2, hf2⟩ := bcell hb2
  have hs2 : w.heap.size + 2 < w2.heap.size := by have := hb2.size; omega
  have hs2b : w.heap.size + 1 < w2.heap.size := by omega
  have hs2a : w.heap.size < w2.heap.size := by omega
  have hB2 := hid (hB1.out.trans (hb2.mono (by omega)))
  clear hb2
  have k0 : w2.cell? ⟨w.heap.size + 2, 0, none⟩ = some (.int .i64 0) := (hc2 _ _ (by omega)).trans K1.out.1
  have k1 : w2.cell? ⟨w.heap.size + 2, 1, none⟩ = some (.int .i64 0) := (hc2 _ _ (by omega)).trans K1.out.2
  have K2 := hid (And.intro k0 k1)
  clear k0 k1
  go_wp2_with fail
  refine (l2Time_any _ _).mono ?_
  rw [hp'.out]
  rintro e w3 ⟨rfl, rfl⟩
  go_wp2_with fail
  refine (l2Hybrid_yes _ _ _ hv.out).mono ?_
  rintro e w3 ⟨rfl, hb3⟩
  obtain ⟨hc3, hf3⟩ := bcell hb3
  have hB3 := hid (hB2.out.trans (hb3.mono (by omega)))
  clear hb3
  have k0 : w3.cell? ⟨w.heap.size + 2, 0, none⟩ = some (.int .i64 0) := (hc3 _ _ (by omega)).trans K2.out.1
  have k1 : w3.cell? ⟨w.heap.size + 2, 1, none⟩ = some (.int .i64 0) := (hc3 _ _ (by omega)).trans K2.out.2
  have K3 := hid (And.intro k0 k1)
  clear k0 k1
  go_wp2
  refine bodyPost_ret (v := .tuple #[two (y) (c + 1), .bool true]) (by simp [results, Try.results29, go_sem, K3.out.1, K3.out.2]) rfl ⟨?_, ((hB3.out).setCell (Nat.le_trans (Nat.le_add_right _ 1) (Nat.le_add_right _ 1)) _).setCell (Nat.le_trans (Nat.le_add_right _ 1) (Nat.le_add_right _ 1)) _⟩
  rw [R.out.1, R.out.2.1, R.out.2.2]

set_option maxHeartbeats 1000000 in
theorem HybridMerge_specDo (x c p y d : Int) (w : World) (h1 : hyB x c = true) (h2 : hyB y d = true) (hp : inB p 0 999 = true) (k0 : y = x) (k1 : d ≤ c) (k2 : p ≤ x) (k3 : 99 ≤ c) :
    Calls Try.prog 29 #[two x c, .int .i64 p, two y d] w (MergePost x c p y d w) := by
  have b1 := hyB_true.1 h1
  have b2 := hyB_true.1 h2
  have bp := inB_true.1 hp
  have R := hid ((merge_lo (W := x) (C := c) h1 h2 hp (by omega) (by omega) (by omega) (.inl ⟨rfl, rfl, fun h => k1⟩)).2 (by omega))
  have hv := hid (show hyB x (c + 1) = false from hyB_false.2 (by omega))
  subst k0
  have h1' := hid h1
  have h2' := hid h2
  have hp' := hid hp
  have bc : 0 ≤ c := by omega
  have bd : 0 ≤ d := by omega
  have bc2 : c ≤ 99 := by omega
  have bd2 : d ≤ 99 := by omega
  clear h1 h2 hp b1 b2 bp
  go_enter Try.func29, Try.ntmps29
  go_wp2_with fail
  refine (HybridValid_spec _ _ _).mono ?_
  rw [h1'.out]
  rintro e w1 ⟨rfl, hb1⟩
  obtain ⟨hc1, hf1⟩ := bcell hb1
  have hs1 : w.heap.size + 2 < w1.heap.size := by have := hb1.size; simp at this; omega
  have hs1b : w.heap.size + 1 < w1.heap.size := by omega
  have hs1a : w.heap.size < w1.heap.size := by omega
  have hB1 := hid ((below3 w _ _ _).trans (hb1.mono (by simp; omega)))
  clear hb1
  have k0 : w1.cell? ⟨w.heap.size + 2, 0, none⟩ = some (.int .i64 0) := (hc1 _ _ (by simp)).trans (by simp [go_sem])
  have k1 : w1.cell? ⟨w.heap.size + 2, 1, none⟩ = some (.int .i64 0) := (hc1 _ _ (by simp)).trans (by simp [go_sem])
  have K1 := hid (And.intro k0 k1)
  clear k0 k1
  go_wp2_with fail
  refine (HybridValid_spec _ _ _).mono ?_
  rw [h2'.out]
  rintro e w2 ⟨rfl, hb2⟩
  obtain ⟨hc2, hf2⟩ := bcell hb2
  have hs2 : w.heap.size + 2 < w2.heap.size := by have := hb2.size; omega
  have hs2b : w.heap.size + 1 < w2.heap.size := by omega
  have hs2a : w.heap.size < w2.heap.size := by omega
  have hB2 := hid (hB1.out.trans (hb2.mono (by omega)))
  clear hb2
  have k0 : w2.cell? ⟨w.heap.size + 2, 0, none⟩ = some (.int .i64 0) := (hc2 _ _ (by omega)).trans K1.out.1
  have k1 : w2.cell? ⟨w.heap.size + 2, 1, none⟩ = some (.int .i64 0) := (hc2 _ _ (by omega)).trans K1.out.2
  have K2 := hid (And.intro k0 k1)
  clear k0 k1
  go_wp2_with fail
  refine (l2Time_any _ _).mono ?_
  rw [hp'.out]
  rintro e w3 ⟨rfl, rfl⟩
  go_wp2_with fail
  refine (l2Hybrid_no _ _ _ hv.out).mono ?_
  rintro e w3 ⟨rfl, hb3⟩
  obtain ⟨hc3, hf3⟩ := bcell hb3
  have hB3 := hid (hB2.out.trans (hb3.mono (by omega)))
  clear hb3
  have k0 : w3.cell? ⟨w.heap.size + 2, 0, none⟩ = some (.int .i64 0) := (hc3 _ _ (by omega)).trans K2.out.1
  have k1 : w3.cell? ⟨w.heap.size + 2, 1, none⟩ = some (.int .i64 0) := (hc3 _ _ (by omega)).trans K2.out.2
  have K3 := hid (And.intro k0 k1)
  clear k0 k1
  go_wp2
  refine bodyPost_ret (v := .tuple #[two (0) (0), .bool false]) (by simp [results, Try.results29, go_sem, K3.out.1, K3.out.2]) rfl ⟨?_, ((hB3.out).setCell (Nat.le_trans (Nat.le_add_right _ 1) (Nat.le_add_right _ 1)) _).setCell (Nat.le_trans (Nat.le_add_right _ 1) (Nat.le_add_right _ 1)) _⟩
  rw [R.out.1, R.out.2.1, R.out.2.2]

set_option maxHeartbeats 1000000 in
theorem HybridMerge_specE (x c p y d : Int) (w : World) (h1 : hyB x c = true) (h2 : hyB y d = true) (hp : inB p 0 999 = true) (k0 : y = x) (k1 : c < d) (k2 : p ≤ x) (k3 : d < 99) :
    Calls Try.prog 29 #[two x c, .int .i64 p, two y d] w (MergePost x c p y d w) := by
  have b1 := hyB_true.1 h1
  have b2 := hyB_true.1 h2
  have bp := inB_true.1 hp
  have R := hid ((merge_lo (W := x) (C := d) h1 h2 hp (by omega) (by omega) (by omega) (.inr ⟨k0, rfl, fun h => by omega⟩)).1 k3)
  have hv := hid (show hyB x (d + 1) = true from hyB_true.2 (by omega))
  subst k0
  have h1' := hid h1
  have h2' := hid h2
  have hp' := hid hp
  have bc : 0 ≤ c := by omega
  have bd : 0 ≤ d := by omega
  have bc2 : c ≤ 99 := by omega
  have bd2 : d ≤ 99 := by omega
  clear h1 h2 hp b1 b2 bp
  go_enter Try.func29, Try.ntmps29
  go_wp2_with fail
  refine (HybridValid_spec _ _ _).mono ?_
  rw [h1'.out]
  rintro e w1 ⟨rfl, hb1⟩
  obtain ⟨hc1, hf1⟩ := bcell hb1
  have hs1 : w.heap.size + 2 < w1.heap.size := by have := hb1.size; simp at this; omega
  have hs1b : w.heap.size + 1 < w1.heap.size := by omega
  have hs1a : w.heap.size < w1.heap.size := by omega
  have hB1 := hid ((below3 w _ _ _).trans (hb1.mono (by simp; omega)))
  clear hb1
  have k0 : w1.cell? ⟨w.heap.size + 2, 0, none⟩ = some (.int .i64 0) := (hc1 _ _ (by simp)).trans (by simp [go_sem])
  have k1 : w1.cell? ⟨w.heap.size + 2, 1, none⟩ = some (.int .i64 0) := (hc1 _ _ (by simp)).trans (by simp [go_sem])
  have K1 := hid (And.intro k0 k1)
  clear k0 k1
  go_wp2_with fail
  refine (HybridValid_spec _ _ _).mono ?_
  rw [h2'.out]
  rintro e w2 ⟨rfl, hb2⟩
  obtain ⟨hc2, hf2⟩ := bcell hb2
  have hs2 : w.heap.size + 2 < w2.heap.size := by have := hb2.size; omega
  have hs2b : w.heap.size + 1 < w2.heap.size := by omega
  have hs2a : w.heap.size < w2.heap.size := by omega
  have hB2 := hid (hB1.out.trans (hb2.mono (by omega)))
  clear hb2
  have k0 : w2.cell? ⟨w.heap.size + 2, 0, none⟩ = some (.int .i64 0) := (hc2 _ _ (by omega)).trans K1.out.1
  have k1 : w2.cell? ⟨w.heap.size + 2, 1, none⟩ = some (.int .i64 0) := (hc2 _ _ (by omega)).trans K1.out.2
  have K2 := hid (And.intro k0 k1)
  clear k0 k1
  go_wp2_with fail
  refine (l2Time_any _ _).mono ?_
  rw [hp'.out]
  rintro e w3 ⟨rfl, rfl⟩
  go_wp2_with fail
  refine (l2Hybrid_yes _ _ _ hv.out).mono ?_
  rintro e w3 ⟨rfl, hb3⟩
  obtain ⟨hc3, hf3⟩ := bcell hb3
  have hB3 := hid (hB2.out.trans (hb3.mono (by omega)))
  clear hb3
  have k0 : w3.cell? ⟨w.heap.size + 2, 0, none⟩ = some (.int .i64 0) := (hc3 _ _ (by omega)).trans K2.out.1
  have k1 : w3.cell? ⟨w.heap.size + 2, 1, none⟩ = some (.int .i64 0) := (hc3 _ _ (by omega)).trans K2.out.2
  have K3 := hid (And.intro k0 k1)
  clear k0 k1
  go_wp2
  refine bodyPost_ret (v := .tuple #[two (y) (d + 1), .bool true]) (by simp [results, Try.results29, go_sem, K3.out.1, K3.out.2]) rfl ⟨?_, ((hB3.out).setCell (Nat.le_trans (Nat.le_add_right _ 1) (Nat.le_add_right _ 1)) _).setCell (Nat.le_trans (Nat.le_add_right _ 1) (Nat.le_add_right _ 1)) _⟩
  rw [R.out.1, R.out.2.1, R.out.2.2]

set_option maxHeartbeats 1000000 in
theorem HybridMerge_specEo (x c p y d : Int) (w : World) (h1 : hyB x c = true) (h2 : hyB y d = true) (hp : inB p 0 999 = true) (k0 : y = x) (k1 : c < d) (k2 : p ≤ x) (k3 : 99 ≤ d) :
    Calls Try.prog 29 #[two x c, .int .i64 p, two y d] w (MergePost x c p y d w) := by
  have b1 := hyB_true.1 h1
  have b2 := hyB_true.1 h2
  have bp := inB_true.1 hp
  have R := hid ((merge_lo (W := x) (C := d) h1 h2 hp (by omega) (by omega) (by omega) (.inr ⟨k0, rfl, fun h => by omega⟩)).2 (by omega))
  have hv := hid (show hyB x (d + 1) = false from hyB_false.2 (by omega))
  subst k0
  have h1' := hid h1
  have h2' := hid h2
  have hp' := hid hp
  have bc : 0 ≤ c := by omega
  have bd : 0 ≤ d := by omega
  have bc2 : c ≤ 99 := by omega
  have bd2 : d ≤ 99 := by omega
  clear h1 h2 hp b1 b2 bp
  go_enter Try.func29, Try.ntmps29
  go_wp2_with fail
  refine (HybridValid_spec _ _ _).mono ?_
  rw [h1'.out]
  rintro e w1 ⟨rfl, hb1⟩
  obtain ⟨hc1, hf1⟩ := bcell hb1
  have hs1 : w.heap.size + 2 < w1.heap.size := by have := hb1.size; simp at this; omega
  have hs1b : w.heap.size + 1 < w1.heap.size := by omega
  have hs1a : w.heap.size < w1.heap.size := by omega
  have hB1 := hid ((below3 w _ _ _).trans (hb1.mono (by simp; omega)))
  clear hb1
  have k0 : w1.cell? ⟨w.heap.size + 2, 0, none⟩ = some (.int .i64 0) := (hc1 _ _ (by simp)).trans (by simp [go_sem])
  have k1 : w1.cell? ⟨w.heap.size + 2, 1, none⟩ = some (.int .i64 0) := (hc1 _ _ (by simp)).trans (by simp [go_sem])
  have K1 := hid (And.intro k0 k1)
  clear k0 k1
  go_wp2_with fail
  refine (HybridValid_spec _ _ _).mono ?_
  rw [h2'.out]
  rintro e w2 ⟨rfl, hb2⟩
  obtain ⟨hc2, hf2⟩ := bcell hb2
  have hs2 : w.heap.size + 2 < w2.heap.size := by have := hb2.size; omega
  have hs2b : w.heap.size + 1 < w2.heap.size := by omega
  have hs2a : w.heap.size < w2.heap.size := by omega
  have hB2 := hid (hB1.out.trans (hb2.mono (by omega)))
  clear hb2
  have k0 : w2.cell? ⟨w.heap.size + 2, 0, none⟩ = some (.int .i64 0) := (hc2 _ _ (by omega)).trans K1.out.1
  have k1 : w2.cell? ⟨w.heap.size + 2, 1, none⟩ = some (.int .i64 0) := (hc2 _ _ (by omega)).trans K1.out.2
  have K2 := hid (And.intro k0 k1)
  clear k0 k1
  go_wp2_with fail
  refine (l2Time_any _ _).mono ?_
  rw [hp'.out]
  rintro e w3 ⟨rfl, rfl⟩
  go_wp2_with fail
  refine (l2Hybrid_no _ _ _ hv.out).mono ?_
  rintro e w3 ⟨rfl, hb3⟩
  obtain ⟨hc3, hf3⟩ := bcell hb3
  have hB3 := hid (hB2.out.trans (hb3.mono (by omega)))
  clear hb3
  have k0 : w3.cell? ⟨w.heap.size + 2, 0, none⟩ = some (.int .i64 0) := (hc3 _ _ (by omega)).trans K2.out.1
  have k1 : w3.cell? ⟨w.heap.size + 2, 1, none⟩ = some (.int .i64 0) := (hc3 _ _ (by omega)).trans K2.out.2
  have K3 := hid (And.intro k0 k1)
  clear k0 k1
  go_wp2
  refine bodyPost_ret (v := .tuple #[two (0) (0), .bool false]) (by simp [results, Try.results29, go_sem, K3.out.1, K3.out.2]) rfl ⟨?_, ((hB3.out).setCell (Nat.le_trans (Nat.le_add_right _ 1) (Nat.le_add_right _ 1)) _).setCell (Nat.le_trans (Nat.le_add_right _ 1) (Nat.le_add_right _ 1)) _⟩
  rw [R.out.1, R.out.2.1, R.out.2.2]

theorem HybridMerge_spec (x c p y d : Int) (w : World) :
    Calls Try.prog 29 #[two x c, .int .i64 p, two y d] w (MergePost x c p y d w) := by
  cases h1 : hyB x c with
  | false => exact HybridMerge_spec1 x c p y d w h1
  | true =>
    cases h2 : hyB y d with
    | false => exact HybridMerge_spec2 x c p y d w h1 h2
    | true =>
      cases hp : inB p 0 999 with
      | false => exact HybridMerge_spec3 x c p y d w h1 h2 hp
      | true =>
        have b1 := hyB_true.1 h1
        have b2 := hyB_true.1 h2
        by_cases hA : x < p ∧ y < p
        · exact HybridMerge_specA x c p y d w h1 h2 hp hA.1 hA.2
        · rcases (show y < x ∨ x < y ∨ y = x by omega) with h | h | h
          · by_cases k : c < 99
            · exact HybridMerge_specB x c p y d w h1 h2 hp h (by omega) k
            · exact HybridMerge_specBo x c p y d w h1 h2 hp h (by omega) (by omega)
          · by_cases k : d < 99
            · exact HybridMerge_specC x c p y d w h1 h2 hp h (by omega) k
            · exact HybridMerge_specCo x c p y d w h1 h2 hp h (by omega) (by omega)
          · by_cases e : d ≤ c
            · by_cases k : c < 99
              · exact HybridMerge_specD x c p y d w h1 h2 hp h e (by omega) k
              · exact HybridMerge_specDo x c p y d w h1 h2 hp h e (by omega) (by omega)
            · by_cases k : d < 99
              · exact HybridMerge_specE x c p y d w h1 h2 hp h (by omega) (by omega) k
              · exact HybridMerge_specEo x c p y d w h1 h2 hp h (by omega) (by omega) (by omega)

set_option maxHeartbeats 1000000 in
theorem HybridMerge_implL (x c p y d : Int) (w : World) (h1 : hyB x c = true) (h2 : hyB y d = true) (hl : lexB x c y d = true) :
    Calls Try.prog 30 #[two x c, .int .i64 p, two y d] w (MergePost x c p y d w) := by
  have R := merge_tick h1 h2 (p := p)
  rw [gW_lt hl, gC_lt hl] at R
  have R := hid R
  have h1' := hid h1
  have h2' := hid h2
  have hl' := hid hl
  clear h1 h2 hl
  go_enter Try.func30, Try.ntmps30
  go_wp2_with fail
  refine (HybridValid_impl _ _ _).mono ?_
  rw [h1'.out]
  rintro e w1 ⟨rfl, hb1⟩
  obtain ⟨hc1, hf1⟩ := bcell hb1
  have hs1 : w.heap.size + 2 < w1.heap.size := by have := hb1.size; simp at this; omega
  have hs1b : w.heap.size + 1 < w1.heap.size := by omega
  have hs1a : w.heap.size < w1.heap.size := by omega
  have hB1 := hid ((below3 w _ _ _).trans (hb1.mono (by simp; omega)))
  clear hb1
  have k0 : w1.cell? ⟨w.heap.size + 2, 0, none⟩ = some (.int .i64 0) := (hc1 _ _ (by simp)).trans (by simp [go_sem])
  have k1 : w1.cell? ⟨w.heap.size + 2, 1, none⟩ = some (.int .i64 0) := (hc1 _ _ (by simp)).trans (by simp [go_sem])
  have K1 := hid (And.intro k0 k1)
  clear k0 k1
  go_wp2_with fail
  refine (HybridValid_impl _ _ _).mono ?_
  rw [h2'.out]
  rintro e w2 ⟨rfl, hb2⟩
  obtain ⟨hc2, hf2⟩ := bcell hb2
  have hs2 : w.heap.size + 2 < w2.heap.size := by have := hb2.size; omega
  have hs2b : w.heap.size + 1 < w2.heap.size := by omega
  have hs2a : w.heap.size < w2.heap.size := by omega
  have hB2 := hid (hB1.out.trans (hb2.mono (by omega)))
  clear hb2
  have k0 : w2.cell? ⟨w.heap.size + 2, 0, none⟩ = some (.int .i64 0) := (hc2 _ _ (by omega)).trans K1.out.1
  have k1 : w2.cell? ⟨w.heap.size + 2, 1, none⟩ = some (.int .i64 0) := (hc2 _ _ (by omega)).trans K1.out.2
  have K2 := hid (And.intro k0 k1)
  clear k0 k1
  go_wp2_with fail
  refine (HybridLessM _ _ _ _ _).mono ?_
  rw [hl'.out]
  rintro e w3 ⟨rfl, hb3⟩
  obtain ⟨hc3, hf3⟩ := bcell hb3
  have hs3 : w2.heap.size < w3.heap.size := by have := hb3.size; simp at this; omega
  have hB3 := hid ((hB2.out.alloc (by omega) _).trans (hb3.mono (by simp; omega)))
  have k0 : w3.cell? ⟨w.heap.size + 2, 0, none⟩ = some (.int .i64 0) := (hc3 _ _ (by simp; omega)).trans ((World.cell?_alloc_lt w2 _ _ (by omega)).trans K2.out.1)
  have k1 : w3.cell? ⟨w.heap.size + 2, 1, none⟩ = some (.int .i64 0) := (hc3 _ _ (by simp; omega)).trans ((World.cell?_alloc_lt w2 _ _ (by omega)).trans K2.out.2)
  have K3 := hid (And.intro k0 k1)
  clear hb3 k0 k1
  go_wp2_with fail
  refine (HybridTick_impl _ _ _ _).mono ?_
  rintro e w4 ⟨rfl, hb4⟩
  have hs3c : w.heap.size + 2 < w3.heap.size := by omega
  have hs4 : w.heap.size + 2 < w4.heap.size := by have := hb4.size; (try simp at this); omega
  have k0 : w4.cell? ⟨w.heap.size + 2, 0, none⟩ = some (.int .i64 0) := (hb4.cell (p := ⟨w.heap.size + 2, 0, none⟩) (by simp; omega)).trans
    ((cell_far _ _ _ _ (by show w2.heap.size ≠ w.heap.size + 2; omega)).trans ((cell_far _ _ _ _ (by show w2.heap.size ≠ w.heap.size + 2; omega)).trans K3.out.1))
  have k1 : w4.cell? ⟨w.heap.size + 2, 1, none⟩ = some (.int .i64 0) := (hb4.cell (p := ⟨w.heap.size + 2, 1, none⟩) (by simp; omega)).trans
    ((cell_far _ _ _ _ (by show w2.heap.size ≠ w.heap.size + 2; omega)).trans ((cell_far _ _ _ _ (by show w2.heap.size ≠ w.heap.size + 2; omega)).trans K3.out.2))
  have hB4 := hid (((hB3.out.setCell (p := ⟨w2.heap.size, 0, none⟩) (by show w.heap.size ≤ w2.heap.size; omega) _).setCell (p := ⟨w2.heap.size, 1, none⟩) (by show w.heap.size ≤ w2.heap.size; omega) _).trans (hb4.mono (by simp; omega)))
  obtain ⟨hc4, hf4⟩ := bcell hb4
  have K4 := hid (And.intro k0 k1)
  clear k0 k1 hb4
  go_wp2
  refine bodyPost_ret (v := .tuple #[two (tickW y d p) (tickC y d p), .bool (tickOk y d p)]) (by simp [results, Try.results30, go_sem, K4.out.1, K4.out.2]) rfl ⟨?_, ((hB4.out).setCell (Nat.le_trans (Nat.le_add_right _ 1) (Nat.le_add_right _ 1)) _).setCell (Nat.le_trans (Nat.le_add_right _ 1) (Nat.le_add_right _ 1)) _⟩
  rw [R.out.1, R.out.2.1, R.out.2.2]

set_option maxHeartbeats 1000000 in
theorem HybridMerge_implG (x c p y d : Int) (w : World) (h1 : hyB x c = true) (h2 : hyB y d = true) (hl : lexB x c y d = false) :
    Calls Try.prog 30 #[two x c, .int .i64 p, two y d] w (MergePost x c p y d w) := by
  have R := merge_tick h1 h2 (p := p)
  rw [gW_ge hl, gC_ge hl] at R
  have R := hid R
  have h1' := hid h1
  have h2' := hid h2
  have hl' := hid hl
  clear h1 h2 hl
  go_enter Try.func30, Try.ntmps30
  go_wp2_with fail
  refine (HybridValid_impl _ _ _).mono ?_
  rw [h1'.out]
  rintro e w1 ⟨rfl, hb1⟩
  obtain ⟨hc1, hf1⟩ := bcell hb1
  have hs1 : w.heap.size + 2 < w1.heap.size := by have := hb1.size; simp at this; omega
  have hs1b : w.heap.size + 1 < w1.heap.size := by omega
  have hs1a : w.heap.size < w1.heap.size := by omega
  have hB1 := hid ((below3 w _ _ _).trans (hb1.mono (by simp; omega)))
  clear hb1
  have k0 : w1.cell? ⟨w.heap.size + 2, 0, none⟩ = some (.int .i64 0) := (hc1 _ _ (by simp)).trans (by simp [go_sem])
  have k1 : w1.cell? ⟨w.heap.size + 2, 1, none⟩ = some (.int .i64 0) := (hc1 _ _ (by simp)).trans (by simp [go_sem])
  have K1 := hid (And.intro k0 k1)
  clear k0 k1
  go_wp2_with fail
  refine (HybridValid_impl _ _ _).mono ?_
  rw [h2'.out]
  rintro e w2 ⟨rfl, hb2⟩
  obtain ⟨hc2, hf2⟩ := bcell hb2
  have hs2 : w.heap.size + 2 < w2.heap.size := by have := hb2.size; omega
  have hs2b : w.heap.size + 1 < w2.heap.size := by omega
  have hs2a : w.heap.size < w2.heap.size := by omega
  have hB2 := hid (hB1.out.trans (hb2.mono (by omega)))
  clear hb2
  have k0 : w2.cell? ⟨w.heap.size + 2, 0, none⟩ = some (.int .i64 0) := (hc2 _ _ (by omega)).trans K1.out.1
  have k1 : w2.cell? ⟨w.heap.size + 2, 1, none⟩ = some (.int .i64 0) := (hc2 _ _ (by omega)).trans K1.out.2
  have K2 := hid (And.intro k0 k1)
  clear k0 k1
  go_wp2_with fail
  refine (HybridLessM _ _ _ _ _).mono ?_
  rw [hl'.out]
  rintro e w3 ⟨rfl, hb3⟩
  obtain ⟨hc3, hf3⟩ := bcell hb3
  have hs3 : w2.heap.size < w3.heap.size := by have := hb3.size; simp at this; omega
  have hB3 := hid ((hB2.out.alloc (by omega) _).trans (hb3.mono (by simp; omega)))
  have k0 : w3.cell? ⟨w.heap.size + 2, 0, none⟩ = some (.int .i64 0) := (hc3 _ _ (by simp; omega)).trans ((World.cell?_alloc_lt w2 _ _ (by omega)).trans K2.out.1)
  have k1 : w3.cell? ⟨w.heap.size + 2, 1, none⟩ = some (.int .i64 0) := (hc3 _ _ (by simp; omega)).trans ((World.cell?_alloc_lt w2 _ _ (by omega)).trans K2.out.2)
  have K3 := hid (And.intro k0 k1)
  clear hb3 k0 k1
  go_wp2_with fail
  refine (HybridTick_impl _ _ _ _).mono ?_
  rintro e w4 ⟨rfl, hb4⟩
  have hs3c : w.heap.size + 2 < w3.heap.size := by omega
  have hs4 : w.heap.size + 2 < w4.heap.size := by have := hb4.size; (try simp at this); omega
  have k0 : w4.cell? ⟨w.heap.size + 2, 0, none⟩ = some (.int .i64 0) := (hb4.cell (p := ⟨w.heap.size + 2, 0, none⟩) hs3c).trans K3.out.1
  have k1 : w4.cell? ⟨w.heap.size + 2, 1, none⟩ = some (.int .i64 0) := (hb4.cell (p := ⟨w.heap.size + 2, 1, none⟩) hs3c).trans K3.out.2
  have hB4 := hid (hB3.out.trans (hb4.mono (by omega)))
  obtain ⟨hc4, hf4⟩ := bcell hb4
  have K4 := hid (And.intro k0 k1)
  clear k0 k1 hb4
  go_wp2
  refine bodyPost_ret (v := .tuple #[two (tickW x c p) (tickC x c p), .bool (tickOk x c p)]) (by simp [results, Try.results30, go_sem, K4.out.1, K4.out.2]) rfl ⟨?_, ((hB4.out).setCell (Nat.le_trans (Nat.le_add_right _ 1) (Nat.le_add_right _ 1)) _).setCell (Nat.le_trans (Nat.le_add_right _ 1) (Nat.le_add_right _ 1)) _⟩
  rw [R.out.1, R.out.2.1, R.out.2.2]

theorem HybridMerge_impl (x c p y d : Int) (w : World) :
    Calls Try.prog 30 #[two x c, .int .i64 p, two y d] w (MergePost x c p y d w) := by
  cases h1 : hyB x c with
  | false => exact HybridMerge_impl1 x c p y d w h1
  | true =>
    cases h2 : hyB y d with
    | false => exact HybridMerge_impl2 x c p y d w h1 h2
    | true =>
      cases hl : lexB x c y d with
      | true => exact HybridMerge_implL x c p y d w h1 h2 hl
      | false => exact HybridMerge_implG x c p y d w h1 h2 hl
end Go.Proofs.Ytmbmdhojefdihaa
