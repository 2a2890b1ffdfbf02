/-
  Contracts of StampMax, of the model and of the program. No condition but lengths below 2^40.
-/
import Derived.Test.YtccggcdjajehnaaSmA
import Derived.Test.YtccggcdjajehnaaAt2
namespace Go.Proofs.Ytccggcdjajehnaa
open Go.RowKit

/-- '.slice A n c' reads as the stamps zs -/
def RdS (w : World) (A : Option Addr) (n : Nat) (zs : List St) : Prop :=
  zs.length = n ∧ (0 < n → ∃ b off, A = some ⟨b, off, none⟩ ∧ b < w.heap.size ∧
    ∀ j x, zs[j]? = some x → w.cell? ⟨b, off + j * 2, none⟩ = some (.int .i64 x.1) ∧ w.cell? ⟨b, off + j * 2 + 1, none⟩ = some (.int .i64 x.2))

theorem RdS.below {w w' : World} {A : Option Addr} {n : Nat} {zs : List St} (h : RdS w A n zs) (hb : Below w.heap.size w w') : RdS w' A n zs :=
  ⟨h.1, fun hn => by
    obtain ⟨b, off, e, hl, hc⟩ := h.2 hn
    exact ⟨b, off, e, Nat.lt_of_lt_of_le hl hb.size, fun j x hx => ⟨(hb.cell hl).trans (hc j x hx).1, (hb.cell hl).trans (hc j x hx).2⟩⟩⟩

theorem RdS.at_ {w : World} {A : Option Addr} {n k : Nat} {zs : List St} (h : RdS w A n zs) (hk : k < n) :
    ∃ b off t g, A = some ⟨b, off, none⟩ ∧ Hid (zs[k]? = some (t, g)) ∧ b < w.heap.size ∧ w.cell? ⟨b, off + k * 2, none⟩ = some (.int .i64 t) ∧ w.cell? ⟨b, off + k * 2 + 1, none⟩ = some (.int .i64 g) := by
  obtain ⟨b, off, e, hl, hc⟩ := h.2 (by omega)
  have hlen : k < zs.length := by rw [h.1]; exact hk
  have hx : zs[k]? = some zs[k] := List.getElem?_eq_getElem hlen
  exact ⟨b, off, zs[k].1, zs[k].2, e, hx, hl, (hc k _ hx).1, (hc k _ hx).2⟩

theorem RdS.len {w : World} {A : Option Addr} {n : Nat} {zs : List St} (h : RdS w A n zs) : zs.length = n := h.1

theorem take_tail_succ {zs : List St} {k : Nat} {x : St} (hk : 1 ≤ k) (hx : zs[k]? = some x) : (zs.take (k + 1)).tail = (zs.take k).tail ++ [x] := by
  rw [List.take_add_one, hx]
  cases zs with
  | nil => simp at hx
  | cons z l =>
    obtain ⟨k', rfl⟩ : ∃ k', k = k' + 1 := ⟨k - 1, by omega⟩
    simp

set_option maxHeartbeats 2000000 in
theorem l2Max_any {n c : Nat} {A : Option Addr} {zs : List St} (w : World) (h : RdS w A n zs) (hn : n < 1099511627776) (h1 : 1 ≤ n) :
    Calls Try.prog 63 #[.slice A n c] w fun e w' => e = .returned (two (mxL (zs.headD (0, 0)) zs.tail).1 (mxL (zs.headD (0, 0)) zs.tail).2) ∧ Below w.heap.size w w' := by
  have h' := hid h
  have hlen := hid h.len
  obtain ⟨b, off, t0, g0, rfl, hx0, hb0, c0, c1⟩ := h.at_ (show 0 < n by omega)
  simp only [Nat.zero_mul, Nat.add_zero] at c0 c1
  have hd : Hid (zs.headD (0, 0) = (t0, g0)) := by
    have := hx0.out
    cases zs with
    | nil => simp at this
    | cons z l => simp at this; exact hid this
  have p0 := hid ((At2.new w 33 0 0).alloc (.cells #[.int .i64 t0, .int .i64 g0] 33))
  have p1 := hid (At2.new (w.alloc (.cells #[.int .i64 0, .int .i64 0] 33)) 33 t0 g0)
  have B0 := hid (below2 w (.cells #[.int .i64 0, .int .i64 0] 33) (.cells #[.int .i64 t0, .int .i64 g0] 33))
  clear h
  go_enter Try.func63, Try.ntmps63
  go_wp2
  go_loopw [4] (fun i wr => ∃ (k : Nat) (m m2 : Int), 1 ≤ k ∧ k ≤ n ∧ i = .int .i64 k ∧ Hid ((m, m2) = mxL (t0, g0) (zs.take k).tail) ∧ Hid (At2 wr w.heap.size 33 0 0) ∧ Hid (At2 wr (w.heap.size + 1) 33 m m2) ∧ Hid (Below w.heap.size w wr)) (fun i _ => n - (intOf i).toNat)
  case atStart =>
    refine ⟨1, t0, g0, by omega, h1, rfl, hid ?_, p0, hid (by have := p1.out; simpa using this), B0⟩
    have := hx0.out
    cases zs with
    | nil => simp at this
    | cons z l => simp [mxL]
  case round =>
    obtain ⟨k, m, m2, hk1, hk, rfl, hm, hp0, hp1, hB⟩ := hrel
    have hsz := hB.out.size
    by_cases hlt : k < n
    · obtain ⟨b', off', t, g, e, hx, hbl, d0, d1⟩ := (h'.out.below hB.out).at_ hlt
      injection e with e
      injection e with e1 e2
      subst e1; subst e2
      have q0 : wr.drew.cell? ⟨b, off + k * 2, none⟩ = some (.int .i64 t) := d0
      have q1 : wr.drew.cell? ⟨b, off + k * 2 + 1, none⟩ = some (.int .i64 g) := d1
      have q2 : wr.drew.cell? ⟨w.heap.size + 1, 0, none⟩ = some (.int .i64 m) := hp1.out.c0
      have q3 : wr.drew.cell? ⟨w.heap.size + 1, 1, none⟩ = some (.int .i64 m2) := hp1.out.c1
      have Q := hid (And.intro q0 (And.intro q1 (And.intro q2 q3)))
      have hpl := hp1.out.lt
      have hbd : b < wr.drew.heap.size := hbl
      have hpd : w.heap.size + 1 < wr.drew.heap.size := hpl
      have hpe : w.heap.size < wr.drew.heap.size := hp0.out.lt
      have hp0' : Hid (At2 wr.drew w.heap.size 33 0 0) := hid hp0.out.drew
      have hp1' : Hid (At2 wr.drew (w.heap.size + 1) 33 m m2) := hid hp1.out.drew
      have hB' : Hid (Below w.heap.size w wr.drew) := hid hB.out.drew
      have hnb : w.heap.size ≠ w.heap.size + 1 := by omega
      clear q0 q1 q2 q3 d0 d1
      have hik0 : (0 : Int) ≤ (k : Int) := by omega
      have hik1 : (k : Int) < (n : Int) := by omega
      have hsn := take_tail_succ hk1 hx.out
      cases hl : ltS (m, m2) (t, g) with
      | false =>
        have hm' : Hid ((m, m2) = mxL (t0, g0) (zs.take (k + 1)).tail) := hid (by rw [hsn, mxL_snoc, ← hm.out, mxS_no hl])
        have hl' : Hid (lexB m m2 t g = false) := hid hl
        clear hl hsn
        go_wp2_with fail
        go_region_held3 (fun w' => w'.cell? ⟨b, off + k * 2, none⟩ = some (.int .i64 t) ∧ w'.cell? ⟨b, off + k * 2 + 1, none⟩ = some (.int .i64 g) ∧ w'.cell? ⟨w.heap.size + 1, 0, none⟩ = some (.int .i64 m) ∧ w'.cell? ⟨w.heap.size + 1, 1, none⟩ = some (.int .i64 m2))
          (first | with_reducible exact ⟨Q.out.1, Q.out.2.1, Q.out.2.2.1, Q.out.2.2.2⟩ | with_reducible exact ⟨Q2.out.1, Q2.out.2.1, Q2.out.2.2.1, Q2.out.2.2.2⟩)
          (first | (go_at_call 64; (with_reducible refine (l2Less_any _ _ _ _ _).mono ?_); rw [hl'.out]; rintro e w2 ⟨rfl, hb2⟩; have Q2 := hid (And.intro ((hb2.cell (p := ⟨b, off + k * 2, none⟩) hbd).trans Q.out.1) (And.intro ((hb2.cell (p := ⟨b, off + k * 2 + 1, none⟩) hbd).trans Q.out.2.1) (And.intro ((hb2.cell (p := ⟨w.heap.size + 1, 0, none⟩) hpd).trans Q.out.2.2.1) ((hb2.cell (p := ⟨w.heap.size + 1, 1, none⟩) hpd).trans Q.out.2.2.2))))))
        have B2 := hid (hB'.out.trans (hb2.mono (by omega)))
        have P0 := hid (hp0'.out.below hb2 hpe)
        have P1 := hid (hp1'.out.below hb2 hpd)
        clear hb2
        go_wp2
        go_roundw
        case rel => exact ⟨k + 1, m, m2, by omega, by omega, by go_num, hm', P0, P1, B2⟩
        case measure => simp [intOf]; omega
      | true =>
        have hm' : Hid ((t, g) = mxL (t0, g0) (zs.take (k + 1)).tail) := hid (by rw [hsn, mxL_snoc, ← hm.out, mxS_yes hl])
        have hl' : Hid (lexB m m2 t g = true) := hid hl
        clear hl hsn
        go_wp2_with fail
        go_region_held3 (fun w' => w'.cell? ⟨b, off + k * 2, none⟩ = some (.int .i64 t) ∧ w'.cell? ⟨b, off + k * 2 + 1, none⟩ = some (.int .i64 g) ∧ w'.cell? ⟨w.heap.size + 1, 0, none⟩ = some (.int .i64 m) ∧ w'.cell? ⟨w.heap.size + 1, 1, none⟩ = some (.int .i64 m2))
          (first | with_reducible exact ⟨Q.out.1, Q.out.2.1, Q.out.2.2.1, Q.out.2.2.2⟩ | with_reducible exact ⟨Q2.out.1, Q2.out.2.1, Q2.out.2.2.1, Q2.out.2.2.2⟩)
          (first | (go_at_call 64; (with_reducible refine (l2Less_any _ _ _ _ _).mono ?_); rw [hl'.out]; rintro e w2 ⟨rfl, hb2⟩; have Q2 := hid (And.intro ((hb2.cell (p := ⟨b, off + k * 2, none⟩) hbd).trans Q.out.1) (And.intro ((hb2.cell (p := ⟨b, off + k * 2 + 1, none⟩) hbd).trans Q.out.2.1) (And.intro ((hb2.cell (p := ⟨w.heap.size + 1, 0, none⟩) hpd).trans Q.out.2.2.1) ((hb2.cell (p := ⟨w.heap.size + 1, 1, none⟩) hpd).trans Q.out.2.2.2))))))
        have B2 := hid (hB'.out.trans (hb2.mono (by omega)))
        have P0 := hid (hp0'.out.below hb2 hpe)
        have P1 := hid (hp1'.out.below hb2 hpd)
        obtain ⟨x0, x1, x2, x3⟩ := P1.out.cells
        obtain ⟨y0, y1, _⟩ := Q2.out
        clear hb2
        go_wp2
        go_roundw
        case rel => exact ⟨k + 1, t, g, by omega, by omega, by go_num, hm', hid ((P0.out.far (p := ⟨w.heap.size + 1, 0, none⟩) hnb _).far (p := ⟨w.heap.size + 1, 1, none⟩) hnb _), hid ((P1.out.set0 t).set1 g), hid ((B2.out.setCell (Nat.le_add_right _ _) _).setCell (Nat.le_add_right _ _) _)⟩
        case measure => simp [intOf]; omega
    · have hkn : k = n := by omega
      have hfin : Hid ((m, m2) = mxL (zs.headD (0, 0)) zs.tail) := by
        have e := hm.out
        rw [List.take_of_length_le (by rw [hlen.out]; omega)] at e
        rw [hd.out]
        exact hid e
      obtain ⟨x0, x1, x2, x3⟩ := hp1.out.cells
      obtain ⟨y0, y1, y2, y3⟩ := hp0.out.cells
      have z0 := hid (((hp0.out.set0 m).set1 m2).cells)
      clear hkn
      go_wp2
      refine bodyPost_ret (v := two m m2) (by simp [results, Try.results63, go_sem, y0, y1]) rfl ⟨?_, (hB.out.setCell (Nat.le_refl _) _).setCell (Nat.le_refl _) _⟩
      rw [← hfin.out]
end Go.Proofs.Ytccggcdjajehnaa
