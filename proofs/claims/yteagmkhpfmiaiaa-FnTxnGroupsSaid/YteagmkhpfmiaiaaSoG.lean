/-
  Contracts of the library at lists of ints: Grow, Concat. No condition but lengths below 2^40.
-/
import Derived.Test.YteagmkhpfmiaiaaKp
import Derived.Test.YteagmkhpfmiaiaaRmHi
import Derived.Shelf.Spec.SlicesGrow
import Derived.Lib.SliceRun
namespace Go.Proofs.Yteagmkhpfmiaiaa
open Go.RowKit
set_option linter.unusedVariables false
set_option linter.unusedSimpArgs false

/-- this program's numbers of the library's functions -/
def rhoG : Shelf.Ren where
  f := fun n => if n = 4 then 78 else n
  t := fun n => if n = 0 then 0 else if n = 3 then 3 else if n = 4 then 4 else if n = 9 then 9 else if n = 20 then 20 else if n = 22 then 23 else if n = 25 then 3 else n
  g := fun n => n

theorem laysG : Lays8.n4 Try.prog rhoG where
  mixed := by kernel_rfl
  f4 := ⟨"slices.Grow[[]int,int]", rfl, by kernel_rfl⟩
  t0 := by kernel_rfl
  a0 := fun _ => by kernel_rfl
  z0 := fun _ => by kernel_rfl
  v0 := fun _ => by kernel_rfl
  t3 := by kernel_rfl
  a3 := fun _ => by kernel_rfl
  z3 := fun _ => by kernel_rfl
  v3 := fun _ => by kernel_rfl
  t4 := by kernel_rfl
  a4 := fun _ => by kernel_rfl
  z4 := fun _ => by kernel_rfl
  v4 := fun _ => by kernel_rfl
  t9 := by kernel_rfl
  a9 := fun _ => by kernel_rfl
  z9 := fun _ => by kernel_rfl
  v9 := fun _ => by kernel_rfl
  t20 := by kernel_rfl
  a20 := fun _ => by kernel_rfl
  z20 := fun _ => by kernel_rfl
  v20 := fun _ => by kernel_rfl
  t22 := by kernel_rfl
  a22 := fun _ => by kernel_rfl
  z22 := fun _ => by kernel_rfl
  v22 := fun _ => by kernel_rfl

theorem zero_sizeV (k : Nat) : (Builtin.zeroCells (Value.int .i64 0).cells k).size = k := by simp [Builtin.zeroCells, Value.cells]
/-- room for n numbers -/
theorem GrowV (n : Nat) (w : World) (hn : n < 1099511627776) :
    Calls Try.prog 78 #[.slice none 0 0, .int .i64 n] w fun e w' => ∃ v, e = .returned v ∧ OwI w' w.heap.size v [] ∧ Below w.heap.size w w' := by
  by_cases h : n = 0
  · subst h
    refine (Any8.slices_Grow_room laysG none 0 0 0 w (by omega) (by omega) (by omega) (by omega)).mono ?_
    rintro e w' ⟨rfl, rfl⟩
    exact ⟨_, rfl, World.ownsRow_nil _ _ _ _, Below.refl _ _⟩
  · obtain ⟨i0, hi, hz0, hz1, hz2⟩ := info_parts info_int
    refine (Any8.slices_Grow_grow laysG i0 (.int .i64 0) hi hz0 (by rw [hz1]; decide) none 0 0 n [] w (by omega) (by omega) (by rw [hz2]; omega) (by omega) (by simp) (fun _ => rfl) (fun a h => by cases h)).mono ?_
    rintro e w' ⟨rfl, rfl⟩
    have h1 := grownCap_ge w (0 + n) 0 (rhoG.t 25)
    have h2 := grownCap_le_maxLen w (0 + n) 0 (rhoG.t 25) (by unfold maxLen; omega)
    refine ⟨_, rfl, ⟨rfl, .inr ⟨w.heap.size, _, _, rfl, Nat.le_refl _, heap_alloc_new w.drew _, Nat.zero_le _, h2, ?_, by simp [ints]⟩⟩, (Below.refl _ _).drew.alloc (Nat.le_refl _) _⟩
    generalize grownCap w (0 + n) 0 (rhoG.t 25) = G at h1 h2 ⊢
    rw [Array.size_append, Array.size_append, zero_sizeV, zero_sizeV]
    show 0 + (0 + n - 0) + (G - (0 + n)) = G * 1
    omega

theorem flat_take {zss : List (List Int)} {k : Nat} {zs : List Int} (h : zss[k]? = some zs) : (zss.take (k + 1)).flatten = (zss.take k).flatten ++ zs := by
  rw [List.take_add_one, h]; simp
/-- rows of numbers, listed in a block -/
def RdR (w : World) (b m : Nat) (zss : List (List Int)) : Prop := zss.length = m ∧ ∀ (k : Nat) (zs : List Int), zss[k]? = some zs → ∃ A n c, w.cell? ⟨b, k, none⟩ = some (.slice A n c) ∧ RdI w w.heap.size A n zs ∧ n < 2097152

theorem RdR.step {w w' : World} {b m : Nat} {zss : List (List Int)} (h : RdR w b m zss) (hb : Below w.heap.size w w') : RdR w' b m zss :=
  ⟨h.1, fun k zs hk => by
    obtain ⟨A, n, c, h1, h2, h3⟩ := h.2 k zs hk
    exact ⟨A, n, c, (hb.cell (p := ⟨b, k, none⟩) (World.block_lt_of_cell? w _ h1)).trans h1, (Reads.below h2 hb).more hb.size, h3⟩⟩

theorem RdR.at_ {w : World} {b m k : Nat} {zss : List (List Int)} (h : RdR w b m zss) (hk : k < m) : ∃ zs A n c, Hid (zss[k]? = some zs) ∧ Hid (zs.length = n) ∧ w.cell? ⟨b, k, none⟩ = some (.slice A n c) ∧ Hid (RdI w w.heap.size A n zs) ∧ n < 2097152 := by
  have hl : k < zss.length := by rw [h.1]; exact hk
  obtain ⟨A, n, c, h1, h2, h3⟩ := h.2 k _ (List.getElem?_eq_getElem hl)
  exact ⟨_, A, n, c, List.getElem?_eq_getElem hl, h2.len, h1, h2, h3⟩

set_option maxHeartbeats 8000000 in
theorem ConcatV {b m c : Nat} {zss : List (List Int)} {L : List Int} (w : World) (hr : RdR w b m zss) (hm : m ≤ 8) (hF : zss.flatten = L) :
    Calls Try.prog 52 #[.slice (some ⟨b, 0, none⟩) m c] w fun e w' => ∃ A' c', e = .returned (.slice A' L.length c') ∧ OwI w' w.heap.size (.slice A' L.length c') L ∧ Below w.heap.size w w' := by
  have hr' := hid hr
  have hl := hid hr.1
  have hF' := hid hF
  clear hr hF
  go_enter Try.func52, Try.ntmps52
  go_wp2
  go_loop [3, 11] (fun s i => ∃ (k x : Nat), k ≤ m ∧ i = .int .i64 k ∧ s = .int .i64 x ∧ x ≤ k * 2097152) (fun _ i => m - (intOf i).toNat)
  case atStart => exact ⟨0, 0, by omega, rfl, rfl, by omega⟩
  case round =>
    obtain ⟨k, x, hk, rfl, rfl, hx⟩ := hrel
    by_cases hlt : k < m
    · obtain ⟨zs, A, n, cc, hzs, hn, hc, hri, hn'⟩ := hr'.out.at_ hlt
      have i0 : (0 : Int) ≤ (k : Int) := by omega
      have i1 : (k : Int) < (m : Int) := by omega
      have hw : IntKind.i64.wrap ((x : Int) + (n : Int)) = ((x + n : Nat) : Int) := by rw [IntWalk.i64_in _ (by omega)]; omega
      have hneg : ¬ (((x + n : Nat) : Int) < 0) := by omega
      go_wp2
      go_round
      case rel => exact ⟨k + 1, x + n, by omega, by go_num, by first | rfl | (congr 1; omega), by omega⟩
      case measure => simp [intOf]; omega
    · have hkn : ¬ ((k : Int) < (m : Int)) := by omega
      have hx40 : x < 1099511627776 := by omega
      clear hlt
      go_wp2_with fail
      refine (GrowV x w hx40).mono ?_
      rintro e w1 ⟨v, rfl, hown, hb⟩
      have hO := hid (show OwI w1 w.heap.size v (zss.take 0).flatten by simpa using hown)
      have hB := hid hb
      clear hown hb
      go_wp2
      go_loopw [6, 27] (fun o i wr => ∃ (j : Nat), j ≤ m ∧ i = .int .i64 j ∧ Hid (OwI wr w.heap.size o (zss.take j).flatten) ∧ Hid (Below w.heap.size w wr) ∧ Hid ((zss.take j).flatten.length ≤ j * 2097152)) (fun _ i _ => m - (intOf i).toNat)
      case atStart => exact ⟨0, by omega, rfl, hO, hB, hid (by simp)⟩
      case round =>
        clear hO hB
        obtain ⟨j, hj, rfl, hO, hB, hlen⟩ := hrel
        by_cases hlt : j < m
        · obtain ⟨zs, A, n, cc, hzs, hn, hc, hri, hn'⟩ := (hr'.out.step hB.out).at_ hlt
          have i0 : (0 : Int) ≤ (j : Int) := by omega
          have i1 : (j : Int) < (m : Int) := by omega
          have hlen' := hlen.out
          have hz := hB.out.size
          have hnew := hid (flat_take hzs.out)
          go_wp2_with (at_builtin; refine wpList_appH2 rfl (.tmp 31) (.tmp 32) rfl (B := w.heap.size) rfl rfl hO.out hri.out hz (by omega) ?_; intro v' w' hv hg hk)
          have hv' := hid hv
          have hb' := hid (hB.out.grown hg hz (fun g hg => (hO.out.lt g hg).1))
          have hl2 : Hid ((zss.take (j + 1)).flatten.length ≤ (j + 1) * 2097152) := hid (by rw [hnew.out, List.length_append, hn.out]; omega)
          rw [← hnew.out] at hv'
          clear hv hg hk hO hB hlen hlen' hc hri
          go_wp2
          go_roundw
          case rel => exact ⟨j + 1, by omega, by go_num, hv', hb', hl2⟩
          case measure => simp [intOf]; omega
        · have hjm : ¬ ((j : Int) < (m : Int)) := by omega
          rw [List.take_of_length_le (by rw [hl.out]; omega), hF'.out] at hO
          obtain ⟨A', c', e, -⟩ := hO.out.form
          subst e
          go_wp2
          go_ret
          exact ⟨A', c', rfl, hO.out, hB.out⟩
end Go.Proofs.Yteagmkhpfmiaiaa
