/-
  Contracts: slices.Sort at an array of seven, and the program's CommitIndex. No condition but lengths below 2^40.
-/
import Derived.Test.YtgejohkdgcoeeaaCmJ
namespace Go.Proofs.Ytgejohkdgcoeeaa
open Go.RowKit

set_option maxRecDepth 100000 in
set_option maxHeartbeats 1000000 in
theorem Len64_any (m : Nat) (h1 : 1 ≤ m) (h7 : m ≤ 7) (w : World) :
    Calls Try.prog 57 #[.int .u64 m] w fun e w' => ∃ r, e = .returned (.int .i64 r) ∧ w = w' := by
  have : m = 1 ∨ m = 2 ∨ m = 3 ∨ m = 4 ∨ m = 5 ∨ m = 6 ∨ m = 7 := by omega
  rcases this with rfl | rfl | rfl | rfl | rfl | rfl | rfl
  all_goals
    go_enter Try.func57, Try.ntmps57
    go_wp2
    go_ret
    exact ⟨_, rfl, rfl⟩

set_option maxHeartbeats 1000000 in
theorem Len_any (m : Nat) (h1 : 1 ≤ m) (h7 : m ≤ 7) (w : World) :
    Calls Try.prog 46 #[.int .u64 m] w fun e w' => ∃ r, e = .returned (.int .i64 r) ∧ w = w' := by
  go_enter Try.func46, Try.ntmps46
  go_wp2_with fail
  refine (Len64_any m h1 h7 _).mono ?_
  rintro e w' ⟨r, rfl, rfl⟩
  go_wp2
  go_ret
  exact ⟨_, rfl, rfl⟩

set_option maxHeartbeats 2000000 in
theorem pdqsort_any {b m : Nat} {n0 : Int} {xs : List Int} (r : Int) (w : World) (hA : AtC w b (n0 :: xs)) (hx : xs.length = 7) (hm1 : 1 ≤ m) (hm : m ≤ 7) :
    Calls Try.prog 45 #[.slice (some ⟨b, 1, none⟩) m 7, .int .i64 0, .int .i64 m, .int .i64 r] w (SortPost b m n0 xs w) := by
  have hA' := hid hA
  clear hA
  go_enter Try.func45, Try.ntmps45
  go_wp2
  go_loopw [1, 2] (fun a c wr => a = .int .i64 0 ∧ c = .int .i64 (m : Int) ∧ wr = w) (fun _ _ _ => 0)
  case atStart => exact ⟨rfl, rfl, rfl⟩
  case round =>
    obtain ⟨rfl, rfl, rfl⟩ := hrel
    go_wp2_with fail
    refine (insertionSort_any _ hA'.out hx hm1 hm).mono ?_
    rintro e w2 ⟨rfl, hs⟩
    have hs' := hid hs
    clear hs
    go_wp2
    go_end0
    exact ⟨rfl, hs'.out⟩

set_option maxHeartbeats 2000000 in
theorem Sort_any {b m : Nat} {n0 : Int} {xs : List Int} (w : World) (hA : AtC w b (n0 :: xs)) (hx : xs.length = 7) (hm1 : 1 ≤ m) (hm : m ≤ 7) :
    Calls Try.prog 42 #[.slice (some ⟨b, 1, none⟩) m 7] w (SortPost b m n0 xs w) := by
  have hA' := hid hA
  clear hA
  go_enter Try.func42, Try.ntmps42
  go_wp2_with fail
  refine (Len_any m hm1 hm _).mono ?_
  rintro e w1 ⟨r, rfl, rfl⟩
  go_wp2_with fail
  refine (pdqsort_any r _ hA'.out hx hm1 hm).mono ?_
  rintro e w2 ⟨rfl, hs⟩
  have hs' := hid hs
  clear hs
  go_wp2
  go_end0
  exact ⟨rfl, hs'.out⟩

theorem sort_cix {s zs : List Int} {m : Nat} {n : Nat} (hv : lvB zs = true) (hm : zs.length = m) (hp : (s.take m).Perm ((zs ++ List.replicate n 0).take m)) (ha : AscTo s m) : IsCix zs (s.getD (m - (m / 2 + 1)) 0) := by
  obtain ⟨h1, h7, hb⟩ := lvB_true hv
  have hp2 : (s.take m).Perm zs := by
    have e : (zs ++ List.replicate n 0).take m = zs := by rw [← hm, List.take_left]
    rw [e] at hp; exact hp
  have h2 := sorted_cix hp2 hm (by omega) hb (fun i j hij hj => by
    rw [getD_lt (by omega), getD_lt hj]; exact ha i j hij hj)
  rw [getD_lt (by omega)] at h2
  exact h2

set_option maxHeartbeats 4000000 in
theorem committed_any {m : Nat} {zs xs : List Int} (hv : lvB zs = true) (hm : zs.length = m) (hx : zs ++ List.replicate (7 - m) 0 = xs) (w : World) :
    Calls Try.prog 28 #[clv ((m : Int) :: xs)] w fun e w' => ∃ r, e = .returned (.int .i64 r) ∧ IsCix zs r ∧ Below w.heap.size w w' := by
  have h17 := lvB_true hv
  have hm1 : 1 ≤ m := by rw [← hm]; exact h17.1
  have hm7 : m ≤ 7 := by rw [← hm]; exact h17.2.1
  have hxl : xs.length = 7 := by rw [← hx]; simp [hm]; omega
  have hfin : ∀ s : List Int, s.length = 7 → (s.take m).Perm (xs.take m) → AscTo s m → IsCix zs (s.getD (m - (m / 2 + 1)) 0) := fun s _ h2 h3 => sort_cix hv hm (by rw [← hx] at h2; exact h2) h3
  have hfin' := hid hfin
  clear hfin h17 hv hm hx
  have hA : AtC (w.alloc (.cells (ints ((m : Int) :: xs)).toArray 43)) w.heap.size ((m : Int) :: xs) := AtC.new w _
  have hB : Below w.heap.size w (w.alloc (.cells (ints ((m : Int) :: xs)).toArray 43)) := below_one _ _
  have hx' := hid hxl
  obtain ⟨a0, a1, a2, a3, a4, a5, a6, e⟩ := seven hxl
  have hA' := hid hA
  have hB' := hid hB
  clear hA hB
  have hsl := slice_arr hm7
  rw [e]
  go_enter Try.func28, Try.ntmps28
  go_wp2_with fail
  generalize hW : w.alloc _ = W
  have hA2 : Hid (AtC W w.heap.size ((m : Int) :: xs)) := hid (by rw [← hW]; simpa [e] using hA'.out)
  have hB2 : Hid (Below w.heap.size w W) := hid (by rw [← hW]; simpa [e] using hB'.out)
  clear hW hA' hB' hsl
  refine (Sort_any W hA2.out hxl hm1 hm7).mono ?_
  rintro e1 w2 ⟨rfl, s, hA3, hl3, hp3, ha3, hg3⟩
  have hB3 : Hid (Below w.heap.size w w2) := hid (hB2.out.grown hg3 hB2.out.size (fun k hk => by injection hk with hk; omega))
  have hcix := hid (hfin'.out s hl3 hp3 ha3)
  obtain ⟨s0, s1, s2, s3, s4, s5, s6, es⟩ := seven hl3
  obtain ⟨i, hi⟩ : ∃ i, m - (m / 2 + 1) = i := ⟨_, rfl⟩
  have him : i < m := by omega
  have hw : IntKind.i64.wrap ((m : Int) - ((m : Int) / 2 + 1)) = (i : Int) := by
    rw [IntWalk.i64_in _ (by omega)]; omega
  rw [hi] at hcix
  obtain ⟨v, hvv⟩ : ∃ v, s.getD i 0 = v := ⟨_, rfl⟩
  rw [hvv] at hcix
  have hA4 : Hid (AtC w2.drew w.heap.size ((m : Int) :: s)) := hid hA3.drew
  have hB4 : Hid (Below w.heap.size w w2.drew) := hid hB3.out.drew
  have hvv' := hid hvv
  have hl3' := hid hl3
  have es' := hid es
  clear hA3 hl3 hp3 ha3 hg3 hfin' hi es e hvv hB3
  have hcells : ∀ w', AtC w' w.heap.size ((m : Int) :: s) → w'.cell? ⟨w.heap.size, 0, none⟩ = some (.int .i64 (m : Int)) ∧ w'.cell? ⟨w.heap.size, 1, none⟩ = some (.int .i64 s0) ∧ w'.cell? ⟨w.heap.size, 2, none⟩ = some (.int .i64 s1) ∧ w'.cell? ⟨w.heap.size, 3, none⟩ = some (.int .i64 s2) ∧ w'.cell? ⟨w.heap.size, 4, none⟩ = some (.int .i64 s3) ∧ w'.cell? ⟨w.heap.size, 5, none⟩ = some (.int .i64 s4) ∧ w'.cell? ⟨w.heap.size, 6, none⟩ = some (.int .i64 s5) ∧ w'.cell? ⟨w.heap.size, 7, none⟩ = some (.int .i64 s6) ∧ w'.cell? ⟨w.heap.size, 1 + i, none⟩ = some (.int .i64 v) := by
    intro w' h
    have h2 := h.arr (k := i) (by rw [hl3'.out]; omega)
    rw [hvv'.out] at h2
    rw [es'.out] at h
    obtain ⟨c0, c1, c2, c3, c4, c5, c6, c7⟩ := h.eight
    exact ⟨c0, c1, c2, c3, c4, c5, c6, c7, h2⟩
  have hcells' := hid hcells
  clear hcells
  have P4 := hid (hcells'.out _ hA4.out)
  have hl4 : w.heap.size < w2.drew.heap.size := hA4.out.lt
  go_wp2_with fail
  go_region_held3 (fun w' => w'.cell? ⟨w.heap.size, 0, none⟩ = some (.int .i64 (m : Int)) ∧ w'.cell? ⟨w.heap.size, 1, none⟩ = some (.int .i64 s0) ∧ w'.cell? ⟨w.heap.size, 2, none⟩ = some (.int .i64 s1) ∧ w'.cell? ⟨w.heap.size, 3, none⟩ = some (.int .i64 s2) ∧ w'.cell? ⟨w.heap.size, 4, none⟩ = some (.int .i64 s3) ∧ w'.cell? ⟨w.heap.size, 5, none⟩ = some (.int .i64 s4) ∧ w'.cell? ⟨w.heap.size, 6, none⟩ = some (.int .i64 s5) ∧ w'.cell? ⟨w.heap.size, 7, none⟩ = some (.int .i64 s6) ∧ w'.cell? ⟨w.heap.size, 1 + i, none⟩ = some (.int .i64 v))
    (first | with_reducible exact P4.out | with_reducible exact P5.out)
    (first | (go_at_call 39; refine (quorum_any (xs := [s0, s1, s2, s3, s4, s5, s6]) rfl hm7 _).mono ?_; rintro e w5 ⟨rfl, hb5⟩; have P5 := hid (hcells'.out _ (hA4.out.below hb5 hl4)); have hB5 := hid (hB4.out.trans (hb5.mono hB4.out.size)); clear hb5))
  all_goals go_wp2
  all_goals go_ret
  all_goals exact ⟨_, rfl, hcix.out, hB5.out⟩

set_option maxHeartbeats 2000000 in
theorem CommitIndex_impl {B n c : Nat} {A : Option Addr} {zs : List Int} (w : World) (hr : RdI w B A n zs) (hB0 : B ≤ w.heap.size) (hn : n < 1099511627776) :
    Calls Try.prog 12 #[.slice A n c] w fun e w' => ∃ r, e = .returned (.int .i64 r) ∧ CixR zs r ∧ Below w.heap.size w w' := by
  have hlx := hid hr.len
  have hr1 := hid hr
  clear hr
  cases hv : lvB zs with
  | false =>
    have hv' := hid hv
    have hf : Hid (clOf zs = [0, 0, 0, 0, 0, 0, 0, 0]) := hid (clOf_no hv)
    clear hv
    go_enter Try.func12, Try.ntmps12
    go_wp2_with fail
    refine (copyLengthsOf_any _ hr1.out hB0 hn).mono ?_
    rintro e w2 ⟨he, hb2⟩
    rw [hf.out, hv'.out, clv8] at he
    subst he
    have hB2 := hid (hb2.alloc hb2.size (.cells (ints zeros8).toArray 43))
    clear hb2
    go_wp2
    go_ret
    exact ⟨-1, rfl, ⟨fun h => absurd h (by rw [hv'.out]; decide), fun _ => rfl⟩, hB2.out⟩
  | true =>
    have hv' := hid hv
    obtain ⟨b0, b1, b2, b3, b4, b5, b6, hg, hpad⟩ := clOf_lit hv
    rw [hlx.out] at hg hpad
    have hg' := hid hg
    have hpad' := hid hpad
    clear hv hg hpad
    go_enter Try.func12, Try.ntmps12
    go_wp2_with fail
    refine (copyLengthsOf_any _ hr1.out hB0 hn).mono ?_
    rintro e w2 ⟨he, hb2⟩
    rw [hg'.out, hv'.out, clv8] at he
    subst he
    have hB2 := hid (hb2.alloc hb2.size (.cells (ints [(n : Int), b0, b1, b2, b3, b4, b5, b6]).toArray 43))
    clear hb2
    go_wp2_with fail
    refine (committed_any (m := n) (zs := zs) (xs := [b0, b1, b2, b3, b4, b5, b6]) hv'.out hlx.out hpad'.out _).mono ?_
    rintro e w3 ⟨r, rfl, hc, hb3⟩
    have hB3 := hid (hB2.out.trans (hb3.mono hB2.out.size))
    have hc' := hid hc
    clear hb3 hc
    go_wp2
    go_ret
    exact ⟨r, rfl, ⟨fun _ => hc'.out, fun h => absurd h (by rw [hv'.out]; decide)⟩, hB3.out⟩
end Go.Proofs.Ytgejohkdgcoeeaa
