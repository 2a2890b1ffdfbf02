/-
  Contract of the program's CommitNeeded. No condition but lengths below 2^40.
-/
import Derived.Test.YtgejohkdgcoeeaaCmH
namespace Go.Proofs.Ytgejohkdgcoeeaa
open Go.RowKit

theorem AtC.eightB {w w' : World} {B b : Nat} {m a0 a1 a2 a3 a4 a5 a6 : Int} (h : AtC w b [m, a0, a1, a2, a3, a4, a5, a6]) (hb : Below B w w') (hB : b < B) : AtC w' b [m, a0, a1, a2, a3, a4, a5, a6] := h.below hb hB

set_option maxHeartbeats 4000000 in
theorem CommitNeeded_impl {B n c : Nat} {A : Option Addr} {zs : List Int} (x : Int) (w : World) (hr : RdI w B A n zs) (hB0 : B ≤ w.heap.size) (hn : n < 1099511627776) :
    Calls Try.prog 23 #[.slice A n c, .int .i64 x] w fun e w' => e = .returned (.int .i64 (needR zs x)) ∧ Below w.heap.size w w' := by
  have hlx := hid hr.len
  have hr1 := hid hr
  clear hr
  cases hv : lvB zs with
  | false =>
    have hv' := hid hv
    have hf : Hid (clOf zs = [0, 0, 0, 0, 0, 0, 0, 0]) := hid (clOf_no hv)
    have hg := hid (needR_no1 (x := x) hv)
    clear hv
    go_enter Try.func23, Try.ntmps23
    go_wp2_with fail
    refine (copyLengthsOf_any _ hr1.out hB0 hn).mono ?_
    rintro e w2 ⟨he, hb2⟩
    rw [hf.out, hv'.out, clv8] at he
    subst he
    have hB2 := hid (hb2.alloc hb2.size (.cells (ints zeros8).toArray 43))
    clear hb2
    go_wp2
    go_ret
    exact ⟨by rw [hg.out]; rfl, hB2.out⟩
  | true =>
    have hv' := hid hv
    obtain ⟨b0, b1, b2, b3, b4, b5, b6, hg, hpad⟩ := clOf_lit hv
    have h17 := lvB_true hv
    have hn1 : 1 ≤ n := by have := h17.1; rw [hlx.out] at this; exact this
    have hn7 : n ≤ 7 := by have := h17.2.1; rw [hlx.out] at this; exact this
    rw [hlx.out] at hg hpad
    have hg' := hid hg
    cases hx : lnB x with
    | false =>
      have hx' := hid hx
      have hf := hid (needR_no2 (zs := zs) hx)
      clear hv hx hg hpad h17
      go_enter Try.func23, Try.ntmps23
      go_wp2_with fail
      refine (copyLengthsOf_any _ hr1.out hB0 hn).mono ?_
      rintro e w2 ⟨he, hb2⟩
      rw [hg'.out, hv'.out, clv8] at he
      subst he
      have hB2 := hid (hb2.alloc hb2.size (.cells (ints [(n : Int), b0, b1, b2, b3, b4, b5, b6]).toArray 43))
      clear hb2
      go_wp2_with (go_at_call 38; (with_reducible refine (lengthExists_any _ _).mono ?_); rw [hx'.out]; rintro e w' ⟨rfl, rfl⟩)
      go_ret
      exact ⟨by rw [hf.out]; rfl, hB2.out⟩
    | true =>
      have hx' := hid hx
      have hf := needR_yes hv hx
      have hh : hav ([b0, b1, b2, b3, b4, b5, b6].take n) x = hav zs x := by
        rw [← hpad, ← hlx.out, List.take_left]
      have hle := hav_le zs x
      obtain ⟨q, hq⟩ : ∃ q, hav zs x = q := ⟨_, rfl⟩
      rw [hq] at hh hf hle
      rw [hlx.out] at hf hle
      have hq' := hid hh
      have hf' := hid hf
      clear hv hx hg hpad h17 hh hf hq
      go_enter Try.func23, Try.ntmps23
      go_wp2_with fail
      refine (copyLengthsOf_any _ hr1.out hB0 hn).mono ?_
      rintro e w2 ⟨he, hb2⟩
      rw [hg'.out, hv'.out, clv8] at he
      subst he
      have hB2 := hid (hb2.alloc hb2.size (.cells (ints [(n : Int), b0, b1, b2, b3, b4, b5, b6]).toArray 43))
      have hA2 := hid (AtC.new w2 [(n : Int), b0, b1, b2, b3, b4, b5, b6])
      clear hb2
      go_wp2_with (go_at_call 38; (with_reducible refine (lengthExists_any _ _).mono ?_); rw [hx'.out]; rintro e w' ⟨rfl, rfl⟩)
      generalize hW : w2.alloc _ = W
      have hA3 : Hid (AtC W.drew w2.heap.size [(n : Int), b0, b1, b2, b3, b4, b5, b6]) := hid (by rw [← hW]; exact hA2.out.drew)
      have hB3 : Hid (Below w.heap.size w W.drew) := hid (by rw [← hW]; exact hB2.out.drew)
      clear hW hA2 hB2
      have P4 := hid hA3.out.eight
      have hl3 : w2.heap.size < W.drew.heap.size := hA3.out.lt
      go_region_held3 (fun w' => w'.cell? ⟨w2.heap.size, 0, none⟩ = some (.int .i64 (n : Int)) ∧ w'.cell? ⟨w2.heap.size, 1, none⟩ = some (.int .i64 b0) ∧ w'.cell? ⟨w2.heap.size, 2, none⟩ = some (.int .i64 b1) ∧ w'.cell? ⟨w2.heap.size, 3, none⟩ = some (.int .i64 b2) ∧ w'.cell? ⟨w2.heap.size, 4, none⟩ = some (.int .i64 b3) ∧ w'.cell? ⟨w2.heap.size, 5, none⟩ = some (.int .i64 b4) ∧ w'.cell? ⟨w2.heap.size, 6, none⟩ = some (.int .i64 b5) ∧ w'.cell? ⟨w2.heap.size, 7, none⟩ = some (.int .i64 b6))
        (first | with_reducible exact P4.out | with_reducible exact P5.out | with_reducible exact P6.out)
        (first | (go_at_call 39; refine (quorum_any (xs := [b0, b1, b2, b3, b4, b5, b6]) rfl hn7 _).mono ?_; rintro e w5 ⟨rfl, hb5⟩; have hA5 := hid (hA3.out.below hb5 hl3); have P5 := hid hA5.out.eight; have hB5 := hid (hB3.out.trans (hb5.mono hB3.out.size)); clear hb5)
               | (go_at_call 40; refine (having_any (xs := [b0, b1, b2, b3, b4, b5, b6]) x rfl hn7 _).mono ?_; rw [hq'.out]; rintro e w6 ⟨rfl, hb6⟩; have P6 := hid (hA5.out.below hb6 hA5.out.lt).eight; have hB6 := hid (hB5.out.trans (hb6.mono hB5.out.size)); clear hb6))
      have hw : IntKind.i64.wrap ((n : Int) / 2 + 1 - (q : Int)) = (n : Int) / 2 + 1 - (q : Int) := IntWalk.i64_in _ (by omega)
      rw [hw]
      obtain ⟨r, hr⟩ : ∃ r, (if 0 < (n : Int) / 2 + 1 - (q : Int) then (n : Int) / 2 + 1 - (q : Int) else 0) = r := ⟨_, rfl⟩
      rw [hr]
      have hr2 : Hid (needR zs x = r) := hid (by rw [hf'.out, ← hr]; split <;> omega)
      clear hw hr
      go_wp2
      go_ret
      exact ⟨by rw [hr2.out]; rfl, hB6.out⟩
end Go.Proofs.Ytgejohkdgcoeeaa
