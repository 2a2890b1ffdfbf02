/-
  The exact laws' helpers over rounds: szRound, toRound, eqRound, markRound, heldRound; a round that is live. No condition but lengths below 2^40.
-/
import Derived.Test.YtjmhedolidkdhaaRxF
import Derived.Test.YtjmhedolidkdhaaRmI
namespace Go.Proofs.Ytjmhedolidkdhaa
open Go.RowKit
set_option linter.unusedVariables false
set_option linter.unusedSimpArgs false

theorem sameB_self (zs : List Int) : sameB zs zs = true := by simp [sameB]

set_option maxHeartbeats 1000000 in
theorem szIntS_l {n c : Nat} {A : Option Addr} (l : Int) (w : World) (hn : n ≤ 9223372036854775807) (h0 : 0 ≤ l) (h1 : l ≤ 1048576) :
    Calls Try.prog 36 #[.slice A n c, .int .i64 l] w fun e w' => e = .returned (.int .i64 (if (n : Int) ≤ l then l - (n : Int) else -1)) ∧ w = w' := by
  by_cases h : (n : Int) ≤ l
  · have R := hid (show (if (n : Int) ≤ l then l - (n : Int) else -1) = l - (n : Int) from if_pos h)
    go_enter Try.func36, Try.ntmps36
    go_wp2
    go_ret
    exact ⟨rfl, rfl⟩
  · have R := hid (show (if (n : Int) ≤ l then l - (n : Int) else -1) = -1 from if_neg h)
    go_enter Try.func36, Try.ntmps36
    go_wp2
    go_ret
    exact ⟨rfl, rfl⟩

set_option maxHeartbeats 1000000 in
theorem szStampS_l {n c : Nat} {A : Option Addr} (l : Int) (w : World) (hn : n ≤ 9223372036854775807) (h0 : 0 ≤ l) (h1 : l ≤ 1048576) :
    Calls Try.prog 37 #[.slice A n c, .int .i64 l] w fun e w' => e = .returned (.int .i64 (if (n : Int) ≤ l then l - (n : Int) else -1)) ∧ w = w' := by
  by_cases h : (n : Int) ≤ l
  · have R := hid (show (if (n : Int) ≤ l then l - (n : Int) else -1) = l - (n : Int) from if_pos h)
    go_enter Try.func37, Try.ntmps37
    go_wp2
    go_ret
    exact ⟨rfl, rfl⟩
  · have R := hid (show (if (n : Int) ≤ l then l - (n : Int) else -1) = -1 from if_neg h)
    go_enter Try.func37, Try.ntmps37
    go_wp2
    go_ret
    exact ⟨rfl, rfl⟩

set_option maxHeartbeats 1000000 in
theorem szRound_any {n c m d : Nat} {A B : Option Addr} {r : Int} (i : Int) (w : World) (hn : n ≤ 9223372036854775807) (hm : m ≤ 9223372036854775807) (hr : (if n + m ≤ 1048576 then 1048576 - (n : Int) - (m : Int) else -1) = r) :
    Calls Try.prog 16 #[rnV i (.slice A n c) (.slice B m d), .int .i64 1048576] w fun e w' => e = .returned (.int .i64 r) ∧ Below w.heap.size w w' := by
  have hB := hid (below1 w (.cells #[.int .i64 i, .slice A n c, .slice B m d] 36))
  by_cases h1 : n ≤ 1048576
  · have hz : (if (n : Int) ≤ 1048576 then (1048576 : Int) - (n : Int) else -1) = 1048576 - (n : Int) := if_pos (by omega)
    by_cases h2 : n + m ≤ 1048576
    · have hr' := hid (show 1048576 - (n : Int) - (m : Int) = r by rw [← hr, if_pos h2])
      have hz2 : (if (m : Int) ≤ 1048576 - (n : Int) then (1048576 - (n : Int)) - (m : Int) else -1) = 1048576 - (n : Int) - (m : Int) := if_pos (by omega)
      replace hz := hid hz
      replace hz2 := hid hz2
      clear hr
      go_enter Try.func16, Try.ntmps16
      go_wp2_with fail
      refine (szIntS_l _ _ hn (by omega) (by omega)).mono ?_
      rw [hz.out]
      rintro e w1 ⟨rfl, rfl⟩
      go_wp2_with fail
      refine (szStampS_l _ _ hm (by omega) (by omega)).mono ?_
      rw [hz2.out]
      rintro e w1 ⟨rfl, rfl⟩
      go_wp2
      go_ret
      exact ⟨ret_int hr'.out, hB.out⟩
    · have hr' := hid (show (-1 : Int) = r by rw [← hr, if_neg h2])
      have hz2 : (if (m : Int) ≤ 1048576 - (n : Int) then (1048576 - (n : Int)) - (m : Int) else -1) = -1 := if_neg (by omega)
      replace hz := hid hz
      replace hz2 := hid hz2
      clear hr
      go_enter Try.func16, Try.ntmps16
      go_wp2_with fail
      refine (szIntS_l _ _ hn (by omega) (by omega)).mono ?_
      rw [hz.out]
      rintro e w1 ⟨rfl, rfl⟩
      go_wp2_with fail
      refine (szStampS_l _ _ hm (by omega) (by omega)).mono ?_
      rw [hz2.out]
      rintro e w1 ⟨rfl, rfl⟩
      go_wp2
      go_ret
      exact ⟨ret_int hr'.out, hB.out⟩
  · have hr' := hid (show (-1 : Int) = r by rw [← hr, if_neg (by omega)])
    have hz := hid (show (if (n : Int) ≤ 1048576 then (1048576 : Int) - (n : Int) else -1) = -1 from if_neg (by omega))
    clear hr
    go_enter Try.func16, Try.ntmps16
    go_wp2_with fail
    refine (szIntS_l _ _ hn (by omega) (by omega)).mono ?_
    rw [hz.out]
    rintro e w1 ⟨rfl, rfl⟩
    go_wp2
    go_ret
    exact ⟨ret_int hr'.out, hB.out⟩

set_option maxHeartbeats 4000000 in
theorem toRound_any {n1 c1 n2 c2 : Nat} {A1 A2 : Option Addr} {gs : List Int} {xs : List St} (m : Int) (w : World) (h1 : RdI w w.heap.size A1 n1 gs) (h2 : RdA w A2 n2 xs) (hn1 : n1 < 1099511627776) (hn2 : n2 < 1099511627776) :
    Calls Try.prog 18 #[rnV m (.slice A1 n1 c1) (.slice A2 n2 c2)] w (RnPost m gs xs w) := by
  obtain ⟨w0, hw0⟩ : ∃ W, (((w.alloc (.cells #[.int .i64 m, .slice A1 n1 c1, .slice A2 n2 c2] 36)).alloc (.cells #[.int .i64 0, .slice none 0 0, .slice none 0 0] 25)).alloc (.cells #[.int .i64 m, .slice none 0 0, .slice none 0 0] 25)) = W := ⟨_, rfl⟩
  have B := hid (show Below w.heap.size w w0 by rw [← hw0]; exact below3 w _ _ _)
  have C0 := hid (show Cs w0 w.heap.size 36 #[.int .i64 m, .slice A1 n1 c1, .slice A2 n2 c2] by rw [← hw0]; exact ((Cs.new w _ _).alloc _).alloc _)
  have C1 := hid (show Cs w0 (w.heap.size + 1) 25 #[.int .i64 0, .slice none 0 0, .slice none 0 0] by rw [← hw0]; exact (Cs.new' _ _ _ (by simp)).alloc _)
  have C2 := hid (show Cs w0 (w.heap.size + 1 + 1) 25 #[.int .i64 m, .slice none 0 0, .slice none 0 0] by rw [← hw0]; exact Cs.new' _ _ _ (by simp))
  have hz0 : w.heap.size + 3 = w0.heap.size := by rw [← hw0]; simp
  have X1 := hid ((Reads.below h1 B.out).more B.out.size)
  have h2' := hid h2
  have hw0' := hid hw0
  have hz0 := hid hz0
  have hlt2 : w.heap.size + 1 + 1 < w0.heap.size := by have := hz0.out; omega
  clear hw0 h1 h2
  go_enter Try.func18, Try.ntmps18
  go_upto_region 3 with (fail)
  rw [hw0'.out]
  obtain ⟨a0, a1, a2⟩ := C0.out.three
  go_wp2_with fail
  refine (toIntS_any _ X1.out hn1).mono ?_
  rintro e w1 ⟨v1, rfl, o1, hb1⟩
  obtain ⟨Ga, gc, rfl, -⟩ := o1.rd (Nat.le_refl _)
  have D0 := hid (C0.out.step hb1)
  have D1 := hid (C1.out.step hb1)
  have D2 := hid (C2.out.step hb1)
  have O1 := hid o1.1
  have B1 := hid (B.out.trans (hb1.mono (by omega)))
  have hz1 : w0.heap.size ≤ w1.heap.size := hb1.size
  obtain ⟨x0, x1, x2⟩ := D2.out.three
  obtain ⟨y0, y1, y2⟩ := D2.out.free3
  clear hb1 C0 C1 C2 B X1 a0 a1 a2 o1
  go_upto_region 4 with (fail)
  obtain ⟨W1, hW1⟩ : ∃ W, w1.setCell ⟨w.heap.size + 1 + 1, 1, none⟩ (.slice Ga gs.length gc) = W := ⟨_, rfl⟩
  rw [hW1]
  have hzW : w1.heap.size ≤ W1.heap.size := by rw [← hW1]; simp [World.setCell]
  have hbW := hid (show Below w.heap.size w W1 by rw [← hW1]; exact B1.out.setCell (by simp; omega) _)
  have E0 := hid (show Cs W1 w.heap.size 36 #[.int .i64 m, .slice A1 n1 c1, .slice A2 n2 c2] by rw [← hW1]; exact D0.out.far (by simp; omega) _)
  have E1 := hid (show Cs W1 (w.heap.size + 1) 25 #[.int .i64 0, .slice none 0 0, .slice none 0 0] by rw [← hW1]; exact D1.out.far (by simp) _)
  have E2 := hid (show Cs W1 (w.heap.size + 1 + 1) 25 #[.int .i64 m, .slice Ga gs.length gc, .slice none 0 0] by rw [← hW1]; exact D2.out.set 1 _)
  have P1 := hid (show OwI W1 w0.heap.size (.slice Ga gs.length gc) gs by rw [← hW1]; exact O1.out.setLow hlt2 _)
  have Z2 := hid (h2'.out.below hbW.out)
  obtain ⟨a0, a1, a2⟩ := E0.out.three
  clear hW1 D0 D1 D2 O1 B1 x0 x1 x2 y0 y1 y2
  go_wp2_with fail
  refine (toStampS_any _ Z2.out hn2).mono ?_
  rintro e w2 ⟨v2, rfl, o2, hb2⟩
  obtain ⟨Sa, sc, rfl, -, -, -⟩ := o2.form
  have F1 := hid (E1.out.step hb2)
  have F2 := hid (E2.out.step hb2)
  have Q1 := hid (P1.out.stp hb2)
  have Q2 := hid (o2.more (B' := w0.heap.size) (by omega))
  have B2 := hid (hbW.out.trans (hb2.mono (by omega)))
  obtain ⟨x0, x1, x2⟩ := F2.out.three
  obtain ⟨y0, y1, y2⟩ := F2.out.free3
  clear hb2 E0 E1 E2 a0 a1 a2 o2 P1 Z2 hbW
  go_upto_region 5 with (fail)
  obtain ⟨W2, hW2⟩ : ∃ W, w2.setCell ⟨w.heap.size + 1 + 1, 2, none⟩ (.slice Sa xs.length sc) = W := ⟨_, rfl⟩
  rw [hW2]
  have hbX := hid (show Below w.heap.size w W2 by rw [← hW2]; exact B2.out.setCell (by simp; omega) _)
  have G1 := hid (show Cs W2 (w.heap.size + 1) 25 #[.int .i64 0, .slice none 0 0, .slice none 0 0] by rw [← hW2]; exact F1.out.far (by simp) _)
  have G2 := hid (show Cs W2 (w.heap.size + 1 + 1) 25 #[.int .i64 m, .slice Ga gs.length gc, .slice Sa xs.length sc] by rw [← hW2]; exact F2.out.set 2 _)
  have oR := hid (show OwR W2 w0.heap.size Ga gs.length gc Sa xs.length sc gs xs by rw [← hW2]; exact (OwR.mk Q1.out Q2.out rfl rfl).setLow hlt2 _)
  clear hW2 F1 F2 Q1 Q2 B2 x0 x1 x2 y0 y1 y2
  obtain ⟨x0, x1, x2⟩ := G2.out.three
  obtain ⟨z0, z1, z2⟩ := G1.out.three
  obtain ⟨y0, y1, y2⟩ := G1.out.free3
  have hlt1 : w.heap.size + 1 < w0.heap.size := by omega
  have hY := hid (G1.out.set3 (.int .i64 m) (.slice Ga gs.length gc) (.slice Sa xs.length sc)).three
  have hO := hid (((oR.out.setLow (p := ⟨w.heap.size + 1, 0, none⟩) hlt1 (.int .i64 m)).setLow (p := ⟨w.heap.size + 1, 1, none⟩) hlt1 (.slice Ga gs.length gc)).setLow (p := ⟨w.heap.size + 1, 2, none⟩) hlt1 (.slice Sa xs.length sc))
  go_wp2
  obtain ⟨r0, r1, r2⟩ := hY.out
  refine bodyPost_ret (v := rnV m (.slice Ga gs.length gc) (.slice Sa xs.length sc)) (by simp [results, Try.results18, go_sem, r0, r1, r2]) rfl ?_
  exact ⟨Ga, gc, Sa, sc, rfl, hO.out.more (lo' := w.heap.size) (by omega), ((hbX.out.setCell (by simp <;> omega) _).setCell (by simp <;> omega) _).setCell (by simp <;> omega) _⟩

set_option maxHeartbeats 1000000 in
theorem eqRound_same {n1 c1 n2 c2 d1 d2 : Nat} {A1 A2 B1 B2 : Option Addr} {gs : List Int} {xs : List St} (m : Int) (w : World) (h1 : RdI w w.heap.size A1 n1 gs) (h2 : RdS w A2 n2 xs) (h3 : RdI w w.heap.size B1 n1 gs) (h4 : RdS w B2 n2 xs) (hn1 : n1 < 1099511627776) (hn2 : n2 < 1099511627776) :
    Calls Try.prog 11 #[rnV m (.slice A1 n1 c1) (.slice A2 n2 c2), rnV m (.slice B1 n1 d1) (.slice B2 n2 d2)] w fun e w' => e = .returned (.bool true) ∧ Below w.heap.size w w' := by
  obtain ⟨w0, hw0⟩ : ∃ W, ((w.alloc (.cells #[.int .i64 m, .slice A1 n1 c1, .slice A2 n2 c2] 25)).alloc (.cells #[.int .i64 m, .slice B1 n1 d1, .slice B2 n2 d2] 25)) = W := ⟨_, rfl⟩
  have B := hid (show Below w.heap.size w w0 by rw [← hw0]; exact below2 w _ _)
  have C0 := hid (show Cs w0 w.heap.size 25 #[.int .i64 m, .slice A1 n1 c1, .slice A2 n2 c2] by rw [← hw0]; exact (Cs.new w _ _).alloc _)
  have C1 := hid (show Cs w0 (w.heap.size + 1) 25 #[.int .i64 m, .slice B1 n1 d1, .slice B2 n2 d2] by rw [← hw0]; exact Cs.new' _ _ _ (by simp))
  have r1 := hid ((Reads.below h1 B.out).more B.out.size)
  have r2 := hid (h2.below B.out)
  have r3 := hid ((Reads.below h3 B.out).more B.out.size)
  have r4 := hid (h4.below B.out)
  have hz0 : w.heap.size ≤ w0.heap.size := B.out.size
  replace hw0 := hid hw0
  clear h1 h2 h3 h4
  go_enter Try.func11, Try.ntmps11
  go_upto_region 1 with (fail)
  rw [hw0.out]
  obtain ⟨a0, a1, a2⟩ := C0.out.three
  obtain ⟨b0, b1, b2⟩ := C1.out.three
  go_wp2_with fail
  refine (eqIntS_any _ r1.out r3.out hn1 hn1).mono ?_
  rw [sameB_self]
  rintro e w1 ⟨rfl, hq⟩
  have hb1 := hq.below w0.heap.size
  have D0 := hid (C0.out.step hb1)
  have D1 := hid (C1.out.step hb1)
  have s2 := hid (r2.out.below hb1)
  have s4 := hid (r4.out.below hb1)
  have hB1 := hid (B.out.trans (hb1.mono hz0))
  have hz1 : w.heap.size ≤ w1.heap.size := Nat.le_trans hz0 hb1.size
  clear hq hb1 a0 a1 a2 b0 b1 b2 C0 C1 r1 r2 r3 r4 B
  obtain ⟨a0, a1, a2⟩ := D0.out.three
  obtain ⟨b0, b1, b2⟩ := D1.out.three
  go_wp2_with fail
  refine (eqStampS_same _ s2.out s4.out hn2).mono ?_
  rintro e w2 ⟨rfl, hb2⟩
  have hB2 := hid (hB1.out.trans (hb2.mono hz1))
  clear hb2 a0 a1 a2 b0 b1 b2
  go_wp2
  go_ret
  exact ⟨rfl, hB2.out⟩

/-! ### marks -/
def marksS (k : Int) (n : Nat) : List St := (List.range n).map fun (i : Nat) => (k + 2 * (i : Int), k + 2 * (i : Int) + 1)

theorem marksS_len (k : Int) (n : Nat) : (marksS k n).length = n := by simp [marksS]

theorem marksS_get {k : Int} {n i : Nat} (h : i < n) : (marksS k n)[i]? = some (k + 2 * (i : Int), k + 2 * (i : Int) + 1) := by simp [marksS, h]

theorem OwS.blk {w : World} {B n c : Nat} {A : Option Addr} {zs : List St} (h : OwS w B (.slice A n c) zs) (hn : 0 < zs.length) : ∃ g, A = some ⟨g, 0, none⟩ ∧ g < w.heap.size ∧ B ≤ g ∧ zs.length = n := by
  rcases h.2 with ⟨e, h0⟩ | ⟨g, cap, cur, e, hb, hh, hrest⟩
  · omega
  · injection e with e1 e2 e3
    exact ⟨g, e1, (Array.getElem?_eq_some_iff.1 hh).1, hb, e2.symm⟩

theorem grown_two {w wr : World} {g : Nat} (h : w.grownBy wr (some g)) (i : Nat) (u0 u1 : Value) : w.grownBy ((wr.setCell ⟨g, i, none⟩ u0).setCell ⟨g, i + 1, none⟩ u1) (some g) :=
  ⟨h.os, h.tape, h.output, by simp [World.setCell]; exact h.size, fun j hj hne => (Below.heap_setCell _ _ _ j (fun e => hne (by rw [e]))).trans ((Below.heap_setCell _ _ _ j (fun e => hne (by rw [e]))).trans (h.block j hj hne))⟩

set_option maxHeartbeats 4000000 in
theorem markStampS_any {lo n c : Nat} {A : Option Addr} {zs : List St} (k0 : Int) (w : World) (ho : OwS w lo (.slice A n c) zs) (hl : zs.length = n) (hn : n < 1099511627776) (hk0 : 0 ≤ k0) (hk1 : k0 < 1099511627776000) :
    Calls Try.prog 34 #[.slice A n c, .int .i64 k0] w fun e w' => e = .returned (.int .i64 (k0 + 2 * (n : Int))) ∧ OwS w' lo (.slice A n c) (marksS k0 n) ∧ w.grownBy w' (Value.slice A n c).ownBlock ∧ w'.heap.size = w.heap.size := by
  rcases Nat.eq_zero_or_pos n with h0 | h0
  · subst h0
    have hz : zs = [] := List.eq_nil_of_length_eq_zero hl
    subst hz
    go_enter Try.func34, Try.ntmps34
    go_wp2
    go_rounds 1
    go_ret
    exact ⟨ret_int (by simp), ho, World.grownBy.refl _ _, rfl⟩
  · obtain ⟨g, rfl, hg, hlo, -⟩ := ho.blk (by omega)
    have ho' := hid ho
    have hln' := hid hl
    clear ho hl
    go_enter Try.func34, Try.ntmps34
    go_wp2
    go_loopw [1, 5] (fun x i wr => ∃ (k : Nat) (ys : List St), k ≤ n ∧ i = .int .i64 k ∧ x = .int .i64 (k0 + 2 * (k : Int)) ∧ Hid (ys.length = n) ∧ Hid (OwS wr lo (.slice (some ⟨g, 0, none⟩) n c) ys) ∧ Hid (∀ j, j < k → ys[j]? = some (k0 + 2 * (j : Int), k0 + 2 * (j : Int) + 1)) ∧ Hid (w.grownBy wr (some g)) ∧ Hid (wr.heap.size = w.heap.size)) (fun _ i _ => n - (intOf i).toNat)
    case atStart => exact ⟨0, zs, by omega, rfl, by simp, hln', ho', hid (fun j h => by omega), hid (World.grownBy.refl _ _), hid rfl⟩
    case round =>
      obtain ⟨k, ys, hk, rfl, rfl, hyl, hown, hall, hgr, hsz⟩ := hrel
      by_cases hlt : k < n
      · have hkl : k < ys.length := by rw [hyl.out]; exact hlt
        obtain ⟨y, hy⟩ : ∃ y, ys[k]? = some y := ⟨_, List.getElem?_eq_getElem hkl⟩
        have hyc := stc_get ys k _ hy
        have ow3' : wr.ownsRow lo 44 2 (.slice (some ⟨g, 0, none⟩) n c) n (stc ys) := by
          have := hown.out
          rw [OwS, hyl.out] at this; exact this
        have hel : k * 2 + 1 < (stc ys).length := by rw [stc_len]; omega
        have d0 : wr.cell? ⟨g, k * 2, none⟩ = some (.int .i64 y.1) := by rw [ow3'.cellAt (k * 2) (by omega)]; exact hyc.1
        have d1 : wr.cell? ⟨g, k * 2 + 1, none⟩ = some (.int .i64 y.2) := by rw [ow3'.cellAt (k * 2 + 1) (by omega)]; exact hyc.2
        have e0 : wr.frozen? ⟨g, k * 2, none⟩ = false := ow3'.frozenAt (k * 2)
        have e1 : wr.frozen? ⟨g, k * 2 + 1, none⟩ = false := ow3'.frozenAt (k * 2 + 1)
        have hst := hid (OwS.set hown.out hyl.out k hlt (k0 + 2 * (k : Int), k0 + 2 * (k : Int) + 1))
        have hgz := hid (grown_two hgr.out (k * 2) (.int .i64 (k0 + 2 * (k : Int))) (.int .i64 (k0 + 2 * (k : Int) + 1)))
        have i0 : (0 : Int) ≤ (k : Int) := by omega
        have i1 : (k : Int) < (n : Int) := by omega
        clear ow3' hy hyc hel
        go_wp2
        go_roundw
        case rel => exact ⟨k + 1, ys.set k (k0 + 2 * (k : Int), k0 + 2 * (k : Int) + 1), by omega, by go_num, by go_num, hid (by rw [List.length_set]; exact hyl.out), hst, hid (fun j hj => by
            by_cases e : j = k
            · subst e
              rw [List.getElem?_set_self hkl]
            · rw [List.getElem?_set_ne (fun h => e h.symm)]; exact hall.out j (by omega)), hgz, hid (by simpa using hsz.out)⟩
        case measure => simp [intOf]; omega
      · have hkn : k = n := by omega
        have e : ys = marksS k0 n := by
          apply List.ext_getElem?
          intro i
          by_cases hi : i < n
          · rw [hall.out i (by omega), marksS_get hi]
          · rw [List.getElem?_eq_none (by rw [hyl.out]; omega), List.getElem?_eq_none (by rw [marksS_len]; omega)]
        have hfin := hid (e ▸ hown.out)
        have hkn' := hid hkn
        clear e hkn
        go_wp2
        go_ret
        exact ⟨ret_int (by rw [hkn'.out]), hfin.out, hgr.out, hsz.out⟩

set_option maxHeartbeats 4000000 in
theorem heldStampS_any {n c : Nat} {A : Option Addr} (k0 : Int) (w : World) (hr : RdS w A n (marksS k0 n)) (hn : n < 1099511627776) (hk0 : 0 ≤ k0) (hk1 : k0 < 1099511627776000) :
    Calls Try.prog 35 #[.slice A n c, .int .i64 k0] w fun e w' => e = .returned (.int .i64 (k0 + 2 * (n : Int))) ∧ w = w' := by
  have hr' := hid hr
  clear hr
  go_enter Try.func35, Try.ntmps35
  go_wp2
  go_loop [1, 5] (fun x i => ∃ k : Nat, k ≤ n ∧ i = .int .i64 k ∧ x = .int .i64 (k0 + 2 * (k : Int))) (fun _ i => n - (intOf i).toNat)
  case atStart => exact ⟨0, by omega, rfl, by simp⟩
  case round =>
    obtain ⟨k, hk, rfl, rfl⟩ := hrel
    by_cases hlt : k < n
    · obtain ⟨b, off, t, g, rfl, hx, hb, c0, c1⟩ := hr'.out.at_ hlt
      have hx' := hx.out
      rw [marksS_get hlt] at hx'
      injection hx' with hx'
      injection hx' with e1 e2
      subst e1; subst e2
      have i0 : (0 : Int) ≤ (k : Int) := by omega
      have i1 : (k : Int) < (n : Int) := by omega
      have h0 : (k0 + 2 * (k : Int) != k0 + 2 * (k : Int)) = false := by simp
      have h1 : (k0 + 2 * (k : Int) + 1 != k0 + 2 * (k : Int) + 1) = false := by simp
      clear hx
      go_wp2
      go_round
      case rel => exact ⟨k + 1, by omega, by go_num, by go_num⟩
      case measure => simp [intOf]; omega
    · have hkn := hid (show k = n by omega)
      go_wp2
      go_ret
      exact ⟨ret_int (by rw [hkn.out]), rfl⟩

/-! ### a round that is live -/
structure Lr (w : World) (lo hi : Nat) (A1 : Option Addr) (n1 c1 : Nat) (A2 : Option Addr) (n2 c2 : Nat) (gs : List Int) (xs : List St) : Prop where
  ow : OwR w lo A1 n1 c1 A2 n2 c2 gs xs
  hb : ∀ b, (Value.slice A1 n1 c1).ownBlock = some b ∨ (Value.slice A2 n2 c2).ownBlock = some b → b < hi
  hi : hi ≤ w.heap.size
section
variable {w w' : World} {S : Nat → Prop} {lo hi n1 c1 n2 c2 : Nat} {A1 A2 : Option Addr} {gs : List Int} {xs : List St}

theorem Lr.of (h : OwR w lo A1 n1 c1 A2 n2 c2 gs xs) : Lr w lo w.heap.size A1 n1 c1 A2 n2 c2 gs xs :=
  ⟨h, fun b hb => by rcases hb with hb | hb; exact (h.og.lt b hb).2; exact (h.os.lt b hb).2, Nat.le_refl _⟩

theorem Lr.step (h : Lr w lo hi A1 n1 c1 A2 n2 c2 gs xs) (hb : Below w.heap.size w w') : Lr w' lo hi A1 n1 c1 A2 n2 c2 gs xs := ⟨h.ow.below hb, h.hb, Nat.le_trans h.hi hb.size⟩

theorem Lr.kp (h : Lr w lo hi A1 n1 c1 A2 n2 c2 gs xs) (hk : Kp S w w') (hS : ∀ b, lo ≤ b → b < hi → ¬ S b) : Lr w' lo hi A1 n1 c1 A2 n2 c2 gs xs :=
  ⟨⟨h.ow.og.kp hk (fun k hk' => hS k (h.ow.og.lt k hk').1 (h.hb k (.inl hk'))), h.ow.os.kp hk (fun k hk' => hS k (h.ow.os.lt k hk').1 (h.hb k (.inr hk'))), h.ow.l1, h.ow.l2⟩, h.hb, Nat.le_trans h.hi hk.size⟩

theorem Lr.kpo (h : Lr w lo hi A1 n1 c1 A2 n2 c2 gs xs) (hk : Kp S w w') (h1 : ∀ b, (Value.slice A1 n1 c1).ownBlock = some b → ¬ S b) (h2 : ∀ b, (Value.slice A2 n2 c2).ownBlock = some b → ¬ S b) : Lr w' lo hi A1 n1 c1 A2 n2 c2 gs xs :=
  ⟨⟨h.ow.og.kp hk h1, h.ow.os.kp hk h2, h.ow.l1, h.ow.l2⟩, h.hb, Nat.le_trans h.hi hk.size⟩

theorem Lr.r1 (h : Lr w lo hi A1 n1 c1 A2 n2 c2 gs xs) : RdI w w.heap.size A1 n1 gs := h.ow.og.rd_ h.ow.l1

theorem Lr.r2 (h : Lr w lo hi A1 n1 c1 A2 n2 c2 gs xs) : RdS w A2 n2 xs := h.ow.os.rd h.ow.l2
end

set_option maxHeartbeats 2000000 in
theorem markRound_any {lo hi n1 c1 n2 c2 : Nat} {A1 A2 : Option Addr} {gs : List Int} {xs : List St} (i k0 : Int) (w : World) (h : Lr w lo hi A1 n1 c1 A2 n2 c2 gs xs) (hn1 : n1 < 1099511627776) (hn2 : n2 < 1099511627776) (hk0 : 0 ≤ k0) (hk1 : k0 < 1099511627776) :
    Calls Try.prog 14 #[rnV i (.slice A1 n1 c1) (.slice A2 n2 c2), .int .i64 k0] w fun e w' => e = .returned (.int .i64 (k0 + (n1 : Int) + 2 * (n2 : Int))) ∧ Lr w' lo hi A1 n1 c1 A2 n2 c2 (marks k0 n1) (marksS (k0 + (n1 : Int)) n2) ∧ Kp (fun b => lo ≤ b ∧ b < hi) w w' := by
  have B := hid (below1 w (.cells #[.int .i64 i, .slice A1 n1 c1, .slice A2 n2 c2] 25))
  have C := hid (Cs.new w 25 #[.int .i64 i, .slice A1 n1 c1, .slice A2 n2 c2])
  have O := hid (h.ow.below B.out)
  have hbs := hid h.hb
  have hhi := h.hi
  have hlo1 := hid (fun b hb => (h.ow.og.lt b hb).1 : ∀ b, (Value.slice A1 n1 c1).ownBlock = some b → lo ≤ b)
  have hlo2 := hid (fun b hb => (h.ow.os.lt b hb).1 : ∀ b, (Value.slice A2 n2 c2).ownBlock = some b → lo ≤ b)
  have NE := hid (own_type h.ow.og h.ow.os (by decide))
  have hmz : w.heap.size < (w.alloc (.cells #[.int .i64 i, .slice A1 n1 c1, .slice A2 n2 c2] 25)).heap.size := by simp
  have LV := hid (show Lv (w.alloc (.cells #[.int .i64 i, .slice A1 n1 c1, .slice A2 n2 c2] 25)) lo hi (.slice A1 n1 c1) gs from ⟨⟨O.out.og, fun b hb => hbs.out b (.inl hb)⟩, by omega⟩)
  clear h
  go_enter Try.func14, Try.ntmps14
  go_wp2_with fail
  refine (markIntS_lv k0 _ LV.out hn1 hk0 (by omega)).mono ?_
  rintro e w1 ⟨rfl, o1, g1, s1⟩
  have K1 := hid ((Kp.refl (fun b => (Value.slice A1 n1 c1).ownBlock = some b) _).grown g1 (fun j e => .inr e))
  have C1 := hid (C.out.kp K1.out (fun e => by have := hbs.out _ (.inl e); omega))
  have O2 := hid (O.out.os.kp K1.out (fun j e h1 => NE.out j h1 e))
  have O1 := hid o1.1.1
  have L2 := hid O.out.l2
  have KK := hid ((Kp.of_below (S := fun b => lo ≤ b ∧ b < hi) B.out).trans K1.out (fun j hj e => ⟨hlo1.out j e, hbs.out j (.inl e)⟩))
  obtain ⟨c0, c1', c2'⟩ := C1.out.three
  clear g1 o1 K1 C O B s1 LV
  go_wp2_with fail
  refine (markStampS_any (k0 + (n1 : Int)) _ O2.out L2.out hn2 (by omega) (by omega)).mono ?_
  rintro e w2 ⟨rfl, o2, g2, s2⟩
  have K2 := hid ((Kp.refl (fun b => (Value.slice A2 n2 c2).ownBlock = some b) _).grown g2 (fun j e => .inr e))
  have P1 := hid (O1.out.kp K2.out (fun j e h2 => NE.out j e h2))
  have KF := hid (KK.out.trans K2.out (fun j hj e => ⟨hlo2.out j e, hbs.out j (.inr e)⟩))
  have HF := hid (show Lr w2 lo hi A1 n1 c1 A2 n2 c2 (marks k0 n1) (marksS (k0 + (n1 : Int)) n2) from ⟨⟨P1.out, by show World.ownsRow _ _ _ _ _ _ _; exact o2, marks_len _ _, marksS_len _ _⟩, hbs.out, Nat.le_trans hhi KF.out.size⟩)
  clear g2 o2 K2 O1 O2 KK C1 c0 c1' c2' P1 s2
  go_wp2
  go_ret
  exact ⟨rfl, HF.out, KF.out⟩

set_option maxHeartbeats 2000000 in
theorem heldRound_any {n1 c1 n2 c2 : Nat} {A1 A2 : Option Addr} (i k0 : Int) (w : World) (h1 : RdI w w.heap.size A1 n1 (marks k0 n1)) (h2 : RdS w A2 n2 (marksS (k0 + (n1 : Int)) n2)) (hn1 : n1 < 1099511627776) (hn2 : n2 < 1099511627776) (hk0 : 0 ≤ k0) (hk1 : k0 < 1099511627776) :
    Calls Try.prog 15 #[rnV i (.slice A1 n1 c1) (.slice A2 n2 c2), .int .i64 k0] w fun e w' => e = .returned (.int .i64 (k0 + (n1 : Int) + 2 * (n2 : Int))) ∧ Below w.heap.size w w' := by
  have B := hid (below1 w (.cells #[.int .i64 i, .slice A1 n1 c1, .slice A2 n2 c2] 25))
  have r1 := hid (Reads.below h1 B.out)
  have r2 := hid (h2.below B.out)
  clear h1 h2
  go_enter Try.func15, Try.ntmps15
  go_wp2_with fail
  refine (heldIntS_any k0 _ r1.out hn1 hk0 (by omega)).mono ?_
  rintro e w1 ⟨rfl, rfl⟩
  have g0 : ¬ (k0 + (n1 : Int) < 0) := by omega
  go_wp2_with fail
  refine (heldStampS_any (k0 + (n1 : Int)) _ r2.out hn2 (by omega) (by omega)).mono ?_
  rintro e w1 ⟨rfl, rfl⟩
  have g1 : ¬ (k0 + (n1 : Int) + 2 * (n2 : Int) < 0) := by omega
  go_wp2
  go_ret
  exact ⟨rfl, B.out⟩
end Go.Proofs.Ytjmhedolidkdhaa
