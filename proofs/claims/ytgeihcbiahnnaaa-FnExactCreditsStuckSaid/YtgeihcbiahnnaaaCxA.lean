/-
  The exact laws' helpers over credits: szCredits, toCredits, eqCredits; credits that came in; credits that are live. No condition but lengths below 2^40.
-/
import Derived.Test.YtgeihcbiahnnaaaCdI
import Derived.Test.YtgeihcbiahnnaaaBw
import Derived.Deep.QuietTactic
import Derived.BigRegion
import Derived.Laws.MakeOwn
namespace Go.Proofs.Ytgeihcbiahnnaaa
open Go.RowKit
set_option linter.unusedVariables false
set_option linter.unusedSimpArgs false

theorem sameB_self (zs : List Int) : sameB zs zs = true := by simp [sameB]
/-- senders that came in -/
def RdHX (w : World) (A : Option Addr) (n : Nat) (hs : List Ho) : Prop :=
  hs.length = n ∧ (0 < n → ∃ ad, A = some ad ∧ ad.block < w.heap.size ∧ ∀ (j : Nat) (x : Ho), hs[j]? = some x → ∃ Ai ci, w.cell? (ad.add (j * 2)) = some (.slice Ai x.1.length ci) ∧ w.cell? (ad.add (j * 2 + 1)) = some (.int .i64 x.2) ∧ RdI w w.heap.size Ai x.1.length x.1)

theorem RdHX.below {w w' : World} {A : Option Addr} {n : Nat} {hs : List Ho} (h : RdHX w A n hs) (hb : Below w.heap.size w w') : RdHX w' A n hs :=
  ⟨h.1, fun hn => by
    obtain ⟨ad, e, hl, hc⟩ := h.2 hn
    have hk : ∀ i, w'.cell? (ad.add i) = w.cell? (ad.add i) := fun i => hb.cell (by rw [block_of_add]; exact hl)
    refine ⟨ad, e, Nat.lt_of_lt_of_le hl hb.size, fun j x hx => ?_⟩
    obtain ⟨Ai, ci, h1, h2, h3⟩ := hc j x hx
    exact ⟨Ai, ci, (hk _).trans h1, (hk _).trans h2, (Reads.below h3 hb).more hb.size⟩⟩

theorem RdHX.at_ {w : World} {A : Option Addr} {n k : Nat} {hs : List Ho} (h : RdHX w A n hs) (hk : k < n) :
    ∃ ad Ai m ci x zs, A = some ad ∧ Hid (hs[k]? = some (zs, x)) ∧ Hid (zs.length = m) ∧ w.cell? (ad.add (k * 2)) = some (.slice Ai m ci) ∧ w.cell? ⟨(ad.add (k * 2)).block, (ad.add (k * 2)).off + 1, none⟩ = some (.int .i64 x) ∧ Hid (RdI w w.heap.size Ai m zs) := by
  obtain ⟨ad, e, hl, hc⟩ := h.2 (by omega)
  have hlen : k < hs.length := by rw [h.1]; exact hk
  have hx : hs[k]? = some hs[k] := List.getElem?_eq_getElem hlen
  obtain ⟨Ai, ci, h1, h2, h3⟩ := hc k _ hx
  refine ⟨ad, Ai, _, ci, hs[k].2, hs[k].1, e, hx, rfl, h1, ?_, h3⟩
  have e1 : (ad.add (k * 2)).add 1 = ⟨(ad.add (k * 2)).block, (ad.add (k * 2)).off + 1, none⟩ := rfl
  rw [← e1, add_of_add]; exact h2

set_option maxHeartbeats 1000000 in
theorem szIntS_l {n c : Nat} {A : Option Addr} (l : Int) (w : World) (hn : n ≤ 9223372036854775807) (h0 : 0 ≤ l) (h1 : l ≤ 1048576) :
    Calls Try.prog 37 #[.slice A n c, .int .i64 l] w fun e w' => e = .returned (.int .i64 (if (n : Int) ≤ l then l - (n : Int) else -1)) ∧ w = w' := by
  by_cases h : (n : Int) ≤ l
  · have R := hid (show (if (n : Int) ≤ l then l - (n : Int) else -1) = l - (n : Int) from if_pos h)
    go_enter Try.func37, Try.ntmps37
    go_wp2
    go_ret
    exact ⟨rfl, rfl⟩
  · have R := hid (show (if (n : Int) ≤ l then l - (n : Int) else -1) = -1 from if_neg h)
    go_enter Try.func37, Try.ntmps37
    go_wp2
    go_ret
    exact ⟨rfl, rfl⟩

theorem szIntS_y {n c : Nat} {A : Option Addr} {l : Int} (w : World) (h : (n : Int) ≤ l) (h0 : 0 ≤ l) (h1 : l ≤ 1048576) :
    Calls Try.prog 37 #[.slice A n c, .int .i64 l] w fun e w' => e = .returned (.int .i64 (l - (n : Int))) ∧ w = w' :=
  (szIntS_l l w (by omega) h0 h1).mono fun e w' ⟨h2, h3⟩ => ⟨by rw [h2, if_pos h], h3⟩

theorem szIntS_n {n c : Nat} {A : Option Addr} {l : Int} (w : World) (hn : n ≤ 9223372036854775807) (h : ¬ (n : Int) ≤ l) (h0 : 0 ≤ l) (h1 : l ≤ 1048576) :
    Calls Try.prog 37 #[.slice A n c, .int .i64 l] w fun e w' => e = .returned (.int .i64 (-1)) ∧ w = w' :=
  (szIntS_l l w hn h0 h1).mono fun e w' ⟨h2, h3⟩ => ⟨by rw [h2, if_neg h], h3⟩

/-- what the law's size check hands back: nothing left, or all is small -/
def SzR (l r : Int) (small : Prop) : Prop := r = -1 ∨ (0 ≤ r ∧ r ≤ l ∧ small)

set_option maxHeartbeats 1000000 in
theorem szHold_any {m ci : Nat} {Ai : Option Addr} (x l : Int) (w : World) (hn : m ≤ 9223372036854775807) (h0 : 0 ≤ l) (h1 : l ≤ 1048576) :
    Calls Try.prog 66 #[hoV (.slice Ai m ci) x, .int .i64 l] w fun e w' => (∃ r : Int, e = .returned (.int .i64 r) ∧ SzR l r (m ≤ 1048576)) ∧ Below w.heap.size w w' := by
  have hB := hid (below1 w (.cells #[.slice Ai m ci, .int .i64 x] 75))
  by_cases h : (m : Int) ≤ l
  · have g0 : ¬ (l - (m : Int) < 0) := by omega
    go_enter Try.func66, Try.ntmps66
    go_wp2_with (go_at_call 37; (with_reducible refine (szIntS_y _ h h0 h1).mono ?_); rintro e w2 ⟨rfl, rfl⟩)
    go_ret
    exact ⟨⟨_, rfl, .inr ⟨by omega, by omega, by omega⟩⟩, hB.out⟩
  · go_enter Try.func66, Try.ntmps66
    go_wp2_with (go_at_call 37; (with_reducible refine (szIntS_n _ hn h h0 h1).mono ?_); rintro e w2 ⟨rfl, rfl⟩)
    go_ret
    exact ⟨⟨_, rfl, .inl rfl⟩, hB.out⟩

set_option maxHeartbeats 2000000 in
theorem szHoldS_any {n c : Nat} {A : Option Addr} {hs : List Ho} (l : Int) (w : World) (hr : RdHX w A n hs) (hn : n ≤ 9223372036854775807) (hm : ∀ x ∈ hs, x.1.length ≤ 9223372036854775807) (h0 : 0 ≤ l) (h1 : l ≤ 1048576) :
    Calls Try.prog 38 #[.slice A n c, .int .i64 l] w fun e w' => (∃ r : Int, e = .returned (.int .i64 r) ∧ SzR l r (n ≤ 1048576 ∧ ∀ x ∈ hs, x.1.length ≤ 1048576)) ∧ Below w.heap.size w w' := by
  have hr' := hid hr
  have hl' := hid hr.1
  have hm' := hid hm
  clear hr hm
  by_cases h : (n : Int) ≤ l
  · have g0 : ¬ (l - (n : Int) < 0) := by omega
    go_enter Try.func38, Try.ntmps38
    go_wp2
    go_loopw [1, 5] (fun r i wr => ∃ (k : Nat) (y : Int), k ≤ n ∧ i = .int .i64 k ∧ r = .int .i64 y ∧ 0 ≤ y ∧ y ≤ l ∧ Hid (∀ (j : Nat) (x : Ho), j < k → hs[j]? = some x → x.1.length ≤ 1048576) ∧ Hid (Below w.heap.size w wr)) (fun _ i _ => n - (intOf i).toNat)
    case atStart => exact ⟨0, _, by omega, rfl, rfl, by omega, by omega, hid (fun j x h => by omega), hid (Below.refl _ _)⟩
    case round =>
      obtain ⟨k, y, hk, rfl, rfl, hy0, hyl, hall, hB⟩ := hrel
      by_cases hlt : k < n
      · obtain ⟨ad, Ai, m, ci, x, zs, rfl, hx, hml, c0, c1, hri⟩ := (hr'.out.below hB.out).at_ hlt
        have i0 : (0 : Int) ≤ (k : Int) := by omega
        have i1 : (k : Int) < (n : Int) := by omega
        have hmm : m ≤ 9223372036854775807 := by rw [← hml.out]; exact hm'.out _ (List.mem_of_getElem? hx.out)
        go_wp2_with fail
        refine (szHold_any x y _ hmm hy0 (by omega)).mono ?_
        rintro e w2 ⟨⟨r, rfl, hr2⟩, hb2⟩
        have B2 := hid (hB.out.trans (hb2.mono hB.out.size))
        clear hb2 c0 c1
        rcases hr2 with rfl | ⟨q0, q1, q2⟩
        · go_wp2
          go_ret
          exact ⟨⟨_, rfl, .inl rfl⟩, B2.out⟩
        · have g1 : ¬ (r < 0) := by omega
          go_wp2
          go_roundw
          case rel => exact ⟨k + 1, r, by omega, by go_num, rfl, q0, by omega, hid (fun j x2 hj hjx => by
                by_cases e : j = k
                · subst e
                  rw [hx.out] at hjx
                  injection hjx with hjx
                  subst hjx
                  rw [hml.out]; exact q2
                · exact hall.out j x2 (by omega) hjx), B2⟩
          case measure => simp [intOf]; omega
      · have hkn : ¬ ((k : Int) < (n : Int)) := by omega
        have hfin := hid (show ∀ x ∈ hs, x.1.length ≤ 1048576 from fun x hx => by
          obtain ⟨j, hj, rfl⟩ := List.getElem_of_mem hx
          exact hall.out j _ (by rw [hl'.out] at hj; omega) (List.getElem?_eq_getElem hj))
        go_wp2
        go_ret
        exact ⟨⟨_, rfl, .inr ⟨hy0, hyl, by omega, fun a b hab => hfin.out (a, b) hab⟩⟩, hB.out⟩
  · have g0 : l - (n : Int) < 0 := by omega
    go_enter Try.func38, Try.ntmps38
    go_wp2
    go_ret
    exact ⟨⟨_, rfl, .inl rfl⟩, Below.refl _ _⟩

/-- credits that came in -/
structure RdCX (w : World) (A1 : Option Addr) (n1 : Nat) (A2 : Option Addr) (n2 : Nat) (c : Cr) : Prop where
  f : RdI w w.heap.size A1 n1 c.fr
  h : RdHX w A2 n2 c.hs

theorem RdCX.below {w w' : World} {A1 A2 : Option Addr} {n1 n2 : Nat} {c : Cr} (h : RdCX w A1 n1 A2 n2 c) (hb : Below w.heap.size w w') : RdCX w' A1 n1 A2 n2 c := ⟨(Reads.below h.f hb).more hb.size, h.h.below hb⟩
/-- all is small -/
structure Sm (c : Cr) : Prop where
  f : c.fr.length ≤ 1048576
  h : c.hs.length ≤ 1048576
  s : ∀ x ∈ c.hs, x.1.length ≤ 1048576

set_option maxHeartbeats 2000000 in
theorem szCredits_any {A1 A2 : Option Addr} {n1 c1 n2 c2 : Nat} {c : Cr} (w : World) (hr : RdCX w A1 n1 A2 n2 c) (hn1 : n1 ≤ 9223372036854775807) (hn2 : n2 ≤ 9223372036854775807) (hm : ∀ x ∈ c.hs, x.1.length ≤ 9223372036854775807) :
    Calls Try.prog 17 #[crV (.slice A1 n1 c1) (.slice A2 n2 c2), .int .i64 1048576] w fun e w' => (∃ r : Int, e = .returned (.int .i64 r) ∧ SzR 1048576 r (Sm c)) ∧ Below w.heap.size w w' := by
  obtain ⟨W, hW⟩ : ∃ W, w.alloc (.cells #[.slice A1 n1 c1, .slice A2 n2 c2] 36) = W := ⟨_, rfl⟩
  have hB := hid (show Below w.heap.size w W by rw [← hW]; exact below1 w _)
  have hC := hid (show Cs W w.heap.size 36 #[.slice A1 n1 c1, .slice A2 n2 c2] by rw [← hW]; exact Cs.new w _ _)
  have hR := hid (hr.below hB.out)
  have l1 := hid hr.f.len
  have l2 := hid hr.h.1
  have hm' := hid hm
  obtain ⟨d0, d1, -, -⟩ := hC.out.two
  replace hW := hid hW
  clear hr hm
  by_cases h : (n1 : Int) ≤ 1048576
  · have g0 : ¬ ((1048576 : Int) - (n1 : Int) < 0) := by omega
    go_enter Try.func17, Try.ntmps17
    go_upto_region 1 with (fail)
    rw [hW.out]
    go_wp2_with (go_at_call 37; (with_reducible refine (szIntS_y _ h (by omega) (by omega)).mono ?_); rintro e w2 ⟨rfl, rfl⟩)
    refine (szHoldS_any _ _ hR.out.h hn2 hm'.out (by omega) (by omega)).mono ?_
    rintro e w2 ⟨⟨r, rfl, hr2⟩, hb2⟩
    have B2 := hid (hB.out.trans (hb2.mono hB.out.size))
    clear hb2 d0 d1
    rcases hr2 with rfl | ⟨q0, q1, q2, q3⟩
    · go_wp2
      go_ret
      exact ⟨⟨_, rfl, .inl rfl⟩, B2.out⟩
    · have g1 : ¬ (r < 0) := by omega
      have R := hid (show Sm c from ⟨by rw [l1.out]; omega, by rw [l2.out]; exact q2, q3⟩)
      clear q3
      go_wp2
      go_ret
      exact ⟨⟨_, rfl, .inr ⟨q0, by omega, R.out⟩⟩, B2.out⟩
  · go_enter Try.func17, Try.ntmps17
    go_upto_region 1 with (fail)
    rw [hW.out]
    go_wp2_with (go_at_call 37; (with_reducible refine (szIntS_n _ hn1 h (by omega) (by omega)).mono ?_); rintro e w2 ⟨rfl, rfl⟩)
    go_ret
    exact ⟨⟨_, rfl, .inl rfl⟩, hB.out⟩
end Go.Proofs.Ytgeihcbiahnnaaa
