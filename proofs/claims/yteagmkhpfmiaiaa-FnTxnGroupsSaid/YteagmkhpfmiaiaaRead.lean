/-
  The reader of drawn bytes: l6Open and pick. pick gives a number from 0 to n-1 and moves on by one; nothing else turns. Conditions: n from 1 to 1000000, at most 1000000 picks.
-/
import Derived.Test.YteagmkhpfmiaiaaMgA
namespace Go.Proofs.Yteagmkhpfmiaiaa
open Go.RowKit

abbrev bytes (bs : List Int) : List Value := bs.map (Value.int .u8)
/-- block g is a reader over bytes that lie below B, at most P picks done -/
def Rdr (w : World) (B g P : Nat) : Prop :=
  ∃ (A : Option Addr) (n c p : Nat) (bs : List Int), w.heap[g]? = some (.cells #[.slice A n c, .int .i64 p] 82 (0, 0)) ∧ Reads w B 1 A n (bytes bs) ∧ (∀ b ∈ bs, 0 ≤ b ∧ b < 256) ∧ n ≤ 2000 ∧ p ≤ P ∧ B ≤ g

theorem Rdr.lt {w : World} {B g P : Nat} (h : Rdr w B g P) : g < w.heap.size := by
  obtain ⟨A, n, c, p, bs, hh, _⟩ := h
  exact (Array.getElem?_eq_some_iff.1 hh).1

theorem Rdr.le {w : World} {B g P Q : Nat} (h : Rdr w B g P) (hq : P ≤ Q) : Rdr w B g Q := by
  obtain ⟨A, n, c, p, bs, hh, hr, hb, hn, hp, hg⟩ := h
  exact ⟨A, n, c, p, bs, hh, hr, hb, hn, Nat.le_trans hp hq, hg⟩

theorem Rdr.keep {w w' : World} {B g P : Nat} (h : Rdr w B g P) (hb : ∀ k, k ≤ g → w'.heap[k]? = w.heap[k]?) : Rdr w' B g P := by
  obtain ⟨A, n, c, p, bs, hh, hr, hbs, hn, hp, hg⟩ := h
  exact ⟨A, n, c, p, bs, (hb g (Nat.le_refl _)).trans hh, hr.keep fun q hq => World.cell?_of_block (hb _ (by omega)), hbs, hn, hp, hg⟩

theorem Rdr.below {w w' : World} {B B' g P : Nat} (h : Rdr w B g P) (hb : Below B' w w') (hg : g < B') : Rdr w' B g P := h.keep fun k hk => hb.block k (by omega)

theorem Rdr.quiet {w w' : World} {B g P : Nat} (h : Rdr w B g P) (hq : Qt w w') : Rdr w' B g P := by
  obtain ⟨q, rfl⟩ := hq
  exact h

theorem ofInt_i64 (a : Nat) (ha : a < 9223372036854775808) : (BitVec.ofInt 64 (a : Int)).toNat = a := by
  rw [BitVec.ofInt_natCast, BitVec.toNat_ofNat]; exact Nat.mod_eq_of_lt (by omega)

theorem i64_xor_nat (a b : Nat) (ha : a < 9223372036854775808) (hb : b < 9223372036854775808) : bits .xor .i64 (a : Int) (b : Int) = ((a ^^^ b : Nat) : Int) := by
  have hx : a ^^^ b < 2 ^ 63 := Nat.xor_lt_two_pow (by omega) (by omega)
  show IntKind.i64.wrap ((BitVec.ofInt 64 (a : Int) ^^^ BitVec.ofInt 64 (b : Int)).toNat : Int) = _
  rw [BitVec.toNat_xor, ofInt_i64 a ha, ofInt_i64 b hb, IntKind.wrap_i64]
  omega

theorem xor_mod {x n : Int} (h0 : 0 ≤ x) (h1 : x ≤ 1000000000) (hn : 0 < n) : 0 ≤ (bits .xor .i64 x (x / 64)).tmod n ∧ (bits .xor .i64 x (x / 64)).tmod n < n := by
  obtain ⟨a, rfl⟩ := Int.eq_ofNat_of_zero_le h0
  have e : ((a : Int) / 64) = ((a / 64 : Nat) : Int) := by simp
  rw [e, i64_xor_nat a (a / 64) (by omega) (by omega), Int.tmod_eq_emod_of_nonneg (by omega)]
  exact ⟨Int.emod_nonneg _ (by omega), Int.emod_lt_of_pos _ hn⟩

def PickPost (n : Int) (B g P : Nat) (w : World) (e : Ending) (w' : World) : Prop :=
  ∃ x : Int, e = .returned (.int .i64 x) ∧ 0 ≤ x ∧ x < n ∧ Rdr w' B g (P + 1) ∧ w.grownBy w' (some g) ∧ w'.heap.size = w.heap.size

/-- what one pick leaves: the place has moved on -/
theorem pick_world {B g P : Nat} {A : Option Addr} {nb c p : Nat} {bs : List Int} {w : World} (hh : w.heap[g]? = some (.cells #[.slice A nb c, .int .i64 p] 82 (0, 0)))
    (hr : Reads w B 1 A nb (bytes bs)) (hbs : ∀ b ∈ bs, 0 ≤ b ∧ b < 256) (hnb : nb ≤ 2000) (hp : p ≤ P) (hg : B ≤ g) (q : Nat) :
    Rdr ((w.setCell ⟨g, 1, none⟩ (.int .i64 ((p : Int) + 1))).drewN q) B g (P + 1) ∧ w.grownBy ((w.setCell ⟨g, 1, none⟩ (.int .i64 ((p : Int) + 1))).drewN q) (some g) ∧ ((w.setCell ⟨g, 1, none⟩ (.int .i64 ((p : Int) + 1))).drewN q).heap.size = w.heap.size := by
  refine ⟨⟨A, nb, c, p + 1, bs, ?_, ?_, hbs, hnb, by omega, hg⟩, ?_, ?_⟩
  · show (w.setCell ⟨g, 1, none⟩ (.int .i64 ((p : Int) + 1))).heap[g]? = _
    rw [heap_setCell_same w g 1 _ _ _ hh]; rfl
  · exact hr.setCell (p := ⟨g, 1, none⟩) hg _
  · exact ⟨rfl, rfl, rfl, by simp [World.setCell], fun k _ hne => heap_setCell_other w ⟨g, 1, none⟩ k _ (fun e => hne (by rw [e]))⟩
  · simp [World.setCell]

set_option maxHeartbeats 1000000 in
theorem pick_any {B g P : Nat} (n : Int) (w : World) (h : Rdr w B g P) (hP : P ≤ 1000000) (hn1 : 1 ≤ n) (hn2 : n ≤ 1000000) :
    Calls Try.prog 65 #[.pointer (some ⟨g, 0, none⟩), .int .i64 n] w (PickPost n B g P w) := by
  obtain ⟨A, nb, c, p, bs, hh, hr, hbs, hnb, hp, hg⟩ := h
  have hc0 : w.cell? ⟨g, 0, none⟩ = some (.slice A nb c) := by rw [cell_of_row w g 0 _ _ (0, 0) hh]; rfl
  have hc1 : w.cell? ⟨g, 1, none⟩ = some (.int .i64 p) := by rw [cell_of_row w g 1 _ _ (0, 0) hh]; rfl
  have hf1 : w.frozen? ⟨g, 1, none⟩ = false := frozen_of_row w g 1 _ _ hh
  have hl : bs.length = nb := by have := hr.1; simpa [bytes] using this
  have hfin := hid (pick_world hh hr hbs hnb hp hg)
  have hl' := hid hl
  have hr' := hid hr
  have hbs' := hid hbs
  clear hl hr hbs hh
  have hd : decide (n < 1) = false := by simp; omega
  by_cases h0 : nb = 0
  · subst h0
    go_enter Try.func65, Try.ntmps65
    go_wp2
    go_ret
    exact ⟨0, rfl, by omega, by omega, (hfin.out 0).1, (hfin.out 0).2.1, (hfin.out 0).2.2⟩
  · have hne : ((nb : Int) == 0) = false := by simp; omega
    have hcell : ∀ j, j < nb → ∃ ad z, A = some ad ∧ (0 ≤ z ∧ z < 256) ∧ w.cell? (ad.add j) = some (.int .u8 z) ∧ ∀ u, (w.setCell ⟨g, 1, none⟩ u).cell? (ad.add j) = some (.int .u8 z) := by
      intro j hj
      obtain ⟨ad, e, hbl, hcc⟩ := hr'.out.2 (by omega)
      have hjl : j < bs.length := by rw [hl'.out]; exact hj
      have h1 : w.cell? (ad.add j) = some (.int .u8 bs[j]) := hcc j _ (by simp [bytes, hjl])
      exact ⟨ad, bs[j], e, hbs'.out _ (List.getElem_mem hjl), h1, fun u => (World.cell?_setCell_other w ⟨g, 1, none⟩ (ad.add j) u (fun e2 => by
        have : (ad.add j).block = g := by rw [← e2]
        rw [block_of_add] at this; omega)).trans h1⟩
    have hcell' := hid hcell
    clear hcell
    have hnb0 : 0 < nb := by omega
    clear h0
    by_cases hk : p < nb
    · obtain ⟨ad, z, rfl, ⟨hz0, hz1⟩, _, hz⟩ := hcell'.out p hk
      have hzc := hz (.int .i64 ((p : Int) + 1))
      clear hz
      go_enter Try.func65, Try.ntmps65
      go_wp2
      go_ret
      exact ⟨z % n, rfl, Int.emod_nonneg _ (by omega), Int.emod_lt_of_pos _ (by omega), (hfin.out 0).1, (hfin.out 0).2.1, (hfin.out 0).2.2⟩
    · have hm1 : p % nb < nb := Nat.mod_lt _ hnb0
      have hm2 : (p * 7 + 3) % nb < nb := Nat.mod_lt _ hnb0
      have hm3 : p / nb ≤ p := Nat.div_le_self _ _
      have t1 : (p : Int).tmod (nb : Int) = ((p % nb : Nat) : Int) := by rw [Int.tmod_eq_emod_of_nonneg (by omega)]; simp
      have t2 : ((p : Int) * 7 + 3).tmod (nb : Int) = (((p * 7 + 3) % nb : Nat) : Int) := by rw [Int.tmod_eq_emod_of_nonneg (by omega)]; simp
      have t3 : (p : Int).tdiv (nb : Int) = ((p / nb : Nat) : Int) := by rw [Int.tdiv_eq_ediv_of_nonneg (by omega)]; simp
      generalize p % nb = i1 at hm1 t1
      generalize (p * 7 + 3) % nb = i2 at hm2 t2
      generalize p / nb = d at hm3 t3
      obtain ⟨ad, z1, rfl, ⟨hz0, hz1⟩, _, hz⟩ := hcell'.out _ hm1
      have hzc := hz (.int .i64 ((p : Int) + 1))
      clear hz
      obtain ⟨ad2, z2, e2, ⟨hy0, hy1⟩, _, hy⟩ := hcell'.out _ hm2
      obtain rfl : ad = ad2 := by injection e2
      have hyc := hy (.int .i64 ((p : Int) + 1))
      clear hy e2
      have T1 := hid t1
      have T2 := hid t2
      have T3 := hid t3
      clear t1 t2 t3
      go_enter Try.func65, Try.ntmps65
      go_wp2
      have t1 := T1.out
      have t2 := T2.out
      have t3 := T3.out
      have w1 : IntKind.i64.wrap ((p : Int) * 7) = (p : Int) * 7 := IntWalk.i64_in _ (by omega)
      have w2 : IntKind.i64.wrap ((p : Int) * 7 + 3) = (p : Int) * 7 + 3 := IntWalk.i64_in _ (by omega)
      have w3 : IntKind.i64.wrap (z1 * 131) = z1 * 131 := IntWalk.i64_in _ (by omega)
      have w4 : IntKind.i64.wrap (z2 * 1117) = z2 * 1117 := IntWalk.i64_in _ (by omega)
      have w5 : IntKind.i64.wrap (z1 * 131 + z2 * 1117) = z1 * 131 + z2 * 1117 := IntWalk.i64_in _ (by omega)
      have w6 : IntKind.i64.wrap ((p : Int) * 29) = (p : Int) * 29 := IntWalk.i64_in _ (by omega)
      have w7 : IntKind.i64.wrap (z1 * 131 + z2 * 1117 + (p : Int) * 29) = z1 * 131 + z2 * 1117 + (p : Int) * 29 := IntWalk.i64_in _ (by omega)
      have w8 : IntKind.i64.wrap ((d : Int) * 53) = (d : Int) * 53 := IntWalk.i64_in _ (by omega)
      have w9 : IntKind.i64.wrap (z1 * 131 + z2 * 1117 + (p : Int) * 29 + (d : Int) * 53) = z1 * 131 + z2 * 1117 + (p : Int) * 29 + (d : Int) * 53 := IntWalk.i64_in _ (by omega)
      go_quiet (fail)
      have hx0 : 0 ≤ z1 * 131 + z2 * 1117 + (p : Int) * 29 + (d : Int) * 53 := by omega
      have hx1 : z1 * 131 + z2 * 1117 + (p : Int) * 29 + (d : Int) * 53 ≤ 1000000000 := by omega
      clear w1 w2 w3 w4 w5 w6 w7 w8 w9 t1 t2 t3
      generalize z1 * 131 + z2 * 1117 + (p : Int) * 29 + (d : Int) * 53 = x at hx0 hx1 ⊢
      have hX := hid (xor_mod hx0 hx1 (show 0 < n by omega))
      go_wp2
      go_ret
      exact ⟨_, rfl, hX.out.1, hX.out.2, (hfin.out _).1, (hfin.out _).2.1, (hfin.out _).2.2⟩
end Go.Proofs.Yteagmkhpfmiaiaa
