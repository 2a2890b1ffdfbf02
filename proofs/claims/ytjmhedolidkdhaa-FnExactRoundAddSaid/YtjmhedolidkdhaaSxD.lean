/-
  The exact laws' helpers over slices of stamps: szStampS, toStampS, eqStampS. No condition but lengths below 2^40.
-/
import Derived.Test.YtjmhedolidkdhaaSmE
import Derived.Test.YtjmhedolidkdhaaSxB
namespace Go.Proofs.Ytjmhedolidkdhaa
open Go.RowKit

/-- a slice of stamps that came in: '.slice A n c' reads as zs -/
def RdA (w : World) (A : Option Addr) (n : Nat) (zs : List St) : Prop :=
  zs.length = n ∧ (0 < n → ∃ ad, A = some ad ∧ ad.block < w.heap.size ∧ ∀ j x, zs[j]? = some x → w.cell? (ad.add (j * 2)) = some (.int .i64 x.1) ∧ w.cell? (ad.add (j * 2 + 1)) = some (.int .i64 x.2))

theorem RdA.below {w w' : World} {A : Option Addr} {n : Nat} {zs : List St} (h : RdA w A n zs) (hb : Below w.heap.size w w') : RdA w' A n zs :=
  ⟨h.1, fun hn => by
    obtain ⟨ad, e, hl, hc⟩ := h.2 hn
    refine ⟨ad, e, Nat.lt_of_lt_of_le hl hb.size, fun j x hx => ⟨(hb.cell (by rw [block_of_add]; exact hl)).trans (hc j x hx).1, (hb.cell (by rw [block_of_add]; exact hl)).trans (hc j x hx).2⟩⟩⟩

theorem RdA.at_ {w : World} {A : Option Addr} {n k : Nat} {zs : List St} (h : RdA w A n zs) (hk : k < n) :
    ∃ ad t g, A = some ad ∧ Hid (zs[k]? = some (t, g)) ∧ w.cell? (ad.add (k * 2)) = some (.int .i64 t) ∧ w.cell? (ad.add (k * 2 + 1)) = some (.int .i64 g) ∧ w.cell? ⟨(ad.add (k * 2)).block, (ad.add (k * 2)).off + 1, none⟩ = some (.int .i64 g) := by
  obtain ⟨ad, e, hl, hc⟩ := h.2 (by omega)
  have hlen : k < zs.length := by rw [h.1]; exact hk
  have hx : zs[k]? = some zs[k] := List.getElem?_eq_getElem hlen
  exact ⟨ad, zs[k].1, zs[k].2, e, hx, (hc k _ hx).1, (hc k _ hx).2, by
    have e : (ad.add (k * 2)).add 1 = ⟨(ad.add (k * 2)).block, (ad.add (k * 2)).off + 1, none⟩ := rfl
    rw [← e, add_of_add]; exact (hc k _ hx).2⟩

theorem RdA.of_pairs {w : World} {x : Addr} {n : Nat} (h : ∀ i, i < n → ∃ t g : Int, w.cell? (x.add (i * 2)) = some (.int .i64 t) ∧ w.cell? (x.add (i * 2 + 1)) = some (.int .i64 g)) : ∃ zs, RdA w (some x) n zs := by
  refine ⟨(List.range n).map fun i => (intOf ((w.cell? (x.add (i * 2))).getD undef), intOf ((w.cell? (x.add (i * 2 + 1))).getD undef)), by simp, fun hn => ⟨x, rfl, ?_, fun j y hy => ?_⟩⟩
  · obtain ⟨t, g, e0, _⟩ := h 0 hn
    have := World.block_lt_of_cell? w _ e0
    rwa [block_of_add] at this
  · have hj : j < n := by
      have := (List.getElem?_eq_some_iff.1 hy).1
      simpa using this
    obtain ⟨t, g, e0, e1⟩ := h j hj
    rw [List.getElem?_map, List.getElem?_range hj] at hy
    simp only [Option.map_some, e0, e1, Option.getD_some, Option.some.injEq] at hy
    subst hy
    exact ⟨e0, e1⟩

theorem toList_madeCells_two (z : Value) (m : Nat) : (madeCells #[z, z] m).toList = List.replicate m z := by
  apply List.ext_getElem (by simp [madeCells])
  intro i h1 h2
  have : i % 2 = 0 ∨ i % 2 = 1 := by omega
  rcases this with h | h <;> simp [madeCells, h]

theorem stc_zeros (n : Nat) : stc (List.replicate n (0, 0)) = List.replicate (n * 2) (.int .i64 0) := by
  induction n with
  | zero => rfl
  | succ n ih =>
    rw [show (n + 1) * 2 = n * 2 + 1 + 1 by omega]
    simp [List.replicate_succ, stc, ih]

theorem stc_set : ∀ (l : List St) (k : Nat) (x : St), k < l.length → stc (l.set k x) = ((stc l).set (k * 2) (.int .i64 x.1)).set (k * 2 + 1) (.int .i64 x.2)
  | [], k, x, h => by simp at h
  | y :: l, 0, x, h => rfl
  | y :: l, k + 1, x, h => by
    have ih := stc_set l k x (by simpa using h)
    rw [show (k + 1) * 2 = k * 2 + 1 + 1 by omega]
    simp [stc, ih]

theorem OwS.set {w : World} {B g n c : Nat} {zs : List St} (h : OwS w B (.slice (some ⟨g, 0, none⟩) n c) zs) (hn : zs.length = n) (k : Nat) (hk : k < n) (x : St) :
    OwS ((w.setCell ⟨g, k * 2, none⟩ (.int .i64 x.1)).setCell ⟨g, k * 2 + 1, none⟩ (.int .i64 x.2)) B (.slice (some ⟨g, 0, none⟩) n c) (zs.set k x) := by
  subst hn
  have h1 := (h.stored (k * 2) (.int .i64 x.1)).1
  have h2 := (h1.stored (k * 2 + 1) (.int .i64 x.2)).1
  show World.ownsRow _ B 44 2 _ (zs.set k x).length (stc (zs.set k x))
  rw [stc_set zs k x hk, List.length_set]
  exact h2

set_option maxHeartbeats 1000000 in
theorem szStampS_any {n c : Nat} {A : Option Addr} (w : World) (hn : n ≤ 9223372036854775807) :
    Calls Try.prog 37 #[.slice A n c, .int .i64 1048576] w fun e w' => e = .returned (.int .i64 (if n ≤ 1048576 then 1048576 - (n : Int) else -1)) ∧ w = w' := by
  by_cases h : n ≤ 1048576
  · have R := hid (show (if n ≤ 1048576 then 1048576 - (n : Int) else -1) = 1048576 - (n : Int) from if_pos h)
    go_enter Try.func37, Try.ntmps37
    go_wp2
    go_ret
    exact ⟨rfl, rfl⟩
  · have R := hid (show (if n ≤ 1048576 then 1048576 - (n : Int) else -1) = -1 from if_neg h)
    go_enter Try.func37, Try.ntmps37
    go_wp2
    go_ret
    exact ⟨rfl, rfl⟩

set_option maxHeartbeats 2000000 in
theorem toStampS_any {n c : Nat} {A : Option Addr} {zs : List St} (w : World) (h : RdA w A n zs) (hn : n < 1099511627776) :
    Calls Try.prog 40 #[.slice A n c] w fun e w' => ∃ v, e = .returned v ∧ OwS w' w.heap.size v zs ∧ Below w.heap.size w w' := by
  obtain ⟨i0, hi, hz0, hz1, hz2⟩ := info_parts info_st
  have hlen := hid h.1
  have h' := hid h
  clear h
  go_enter Try.func40, Try.ntmps40
  go_wp2_with (refine wpList_make_full (P := Try.prog) _ rfl _ _ 23 rfl w.heap.size 44 i0 (.agg #[.int .i64 0, .int .i64 0]) 2 Try.underlying23 hi hz0 hz1 .i64 .i64 _ _ n rfl rfl rfl rfl (by rw [hz2]; omega) (by unfold maxLen; omega) (Nat.le_refl _) ?_; intro w1 hown hgr)
  have hb1 := hid ((Below.refl w.heap.size w).grown hgr (Nat.le_refl _) (fun k h => by cases h))
  have ho1 : OwS w1 w.heap.size (.slice (some ⟨w.heap.size, 0, none⟩) n n) (List.replicate n (0, 0)) := by
    show w1.ownsRow w.heap.size 44 2 _ (List.replicate n ((0, 0) : St)).length (stc (List.replicate n (0, 0)))
    rw [stc_zeros, List.length_replicate, ← toList_madeCells_two]
    exact hown
  have ho1' := hid ho1
  clear ho1 hown hgr hi hz0 hz1 hz2
  go_loopw [4] (fun i wr => ∃ (k : Nat) (ys : List St), k ≤ n ∧ i = .int .i64 k ∧ Hid (ys.length = n) ∧ Hid (OwS wr w.heap.size (.slice (some ⟨w.heap.size, 0, none⟩) n n) ys) ∧ Hid (∀ j, j < k → ys[j]? = zs[j]?) ∧ Hid (Below w.heap.size w wr)) (fun i _ => n - (intOf i).toNat)
  case atStart => exact ⟨0, _, by omega, rfl, hid List.length_replicate, ho1', hid (fun j h => by omega), hb1⟩
  case round =>
    obtain ⟨k, ys, hk, rfl, hyl, hown, hall, hbel⟩ := hrel
    have hsz := hbel.out.size
    by_cases hlt : k < n
    · obtain ⟨ad, t, g, rfl, hx, c0, c1, c2⟩ := (h'.out.below hbel.out).at_ hlt
      have i0 : (0 : Int) ≤ (k : Int) := by omega
      have i1 : (k : Int) < (n : Int) := by omega
      go_wp2_with fail
      refine (toStamp_any _ _ _).mono ?_
      rintro e w3 ⟨rfl, hb3⟩
      have ow3 := hid (hown.out.below hb3)
      have B3 := hid (hbel.out.trans (hb3.mono hsz))
      have hkl : k < ys.length := by rw [hyl.out]; exact hlt
      obtain ⟨y, hy⟩ : ∃ y, ys[k]? = some y := ⟨_, List.getElem?_eq_getElem hkl⟩
      have hyc := stc_get ys k y hy
      have ow3' : w3.ownsRow w.heap.size 44 2 (.slice (some ⟨w.heap.size, 0, none⟩) n n) n (stc ys) := by
        have := ow3.out
        rw [OwS, hyl.out] at this; exact this
      have d0 : w3.cell? ⟨w.heap.size, k * 2, none⟩ = some (.int .i64 y.1) := by rw [ow3'.cellAt (k * 2) (by omega)]; exact hyc.1
      have d1 : w3.cell? ⟨w.heap.size, k * 2 + 1, none⟩ = some (.int .i64 y.2) := by rw [ow3'.cellAt (k * 2 + 1) (by omega)]; exact hyc.2
      have e0 : w3.frozen? ⟨w.heap.size, k * 2, none⟩ = false := ow3'.frozenAt (k * 2)
      have e1 : w3.frozen? ⟨w.heap.size, k * 2 + 1, none⟩ = false := ow3'.frozenAt (k * 2 + 1)
      have hst := hid (OwS.set ow3.out hyl.out k hlt (t, g))
      clear hb3 ow3' hy hyc c0 c1 c2
      go_wp2
      go_roundw
      case rel => exact ⟨k + 1, ys.set k (t, g), by omega, by go_num, hid (by rw [List.length_set]; exact hyl.out), hst, hid (fun j hj => by
          by_cases e : j = k
          · subst e
            rw [List.getElem?_set_self hkl]; exact hx.out.symm
          · rw [List.getElem?_set_ne (fun h => e h.symm)]; exact hall.out j (by omega)), hid ((B3.out.setCell (Nat.le_refl _) _).setCell (Nat.le_refl _) _)⟩
      case measure => simp [intOf]; omega
    · have e : ys = zs := by
        apply List.ext_getElem? 
        intro i
        by_cases hi : i < n
        · exact hall.out i (by omega)
        · rw [List.getElem?_eq_none (by rw [hyl.out]; omega), List.getElem?_eq_none (by rw [hlen.out]; omega)]
      have hfin := hid (e ▸ hown.out)
      clear e
      go_wp2
      go_ret
      exact ⟨_, rfl, hfin.out, hbel.out⟩

set_option maxHeartbeats 2000000 in
theorem eqStampS_same {n c c' : Nat} {A A' : Option Addr} {zs : List St} (w : World) (h : RdS w A n zs) (k : RdS w A' n zs) (hn : n < 1099511627776) :
    Calls Try.prog 33 #[.slice A n c, .slice A' n c'] w fun e w' => e = .returned (.bool true) ∧ Below w.heap.size w w' := by
  have h' := hid h
  have k' := hid k
  clear h k
  go_enter Try.func33, Try.ntmps33
  go_wp2
  go_loopw [5] (fun i wr => ∃ j : Nat, j ≤ n ∧ i = .int .i64 j ∧ Hid (Below w.heap.size w wr)) (fun i _ => n - (intOf i).toNat)
  case atStart => exact ⟨0, by omega, rfl, hid (Below.refl _ _)⟩
  case round =>
    obtain ⟨j, hj, rfl, hB⟩ := hrel
    have hsz := hB.out.size
    by_cases hlt : j < n
    · obtain ⟨b, off, t, g, rfl, hx, hb, d0, d1⟩ := (h'.out.below hB.out).at_ hlt
      obtain ⟨b2, off2, t2, g2, rfl, hx2, hb2, f0, f1⟩ := (k'.out.below hB.out).at_ hlt
      have e := hx.out.symm.trans hx2.out
      injection e with e
      injection e with e1 e2
      subst e1; subst e2
      have i0 : (0 : Int) ≤ (j : Int) := by omega
      have i1 : (j : Int) < (n : Int) := by omega
      have q0 : wr.drew.cell? ⟨b, off + j * 2, none⟩ = some (.int .i64 t) := d0
      have q1 : wr.drew.cell? ⟨b, off + j * 2 + 1, none⟩ = some (.int .i64 g) := d1
      have q2 : wr.drew.cell? ⟨b2, off2 + j * 2, none⟩ = some (.int .i64 t) := f0
      have q3 : wr.drew.cell? ⟨b2, off2 + j * 2 + 1, none⟩ = some (.int .i64 g) := f1
      have Q := hid (And.intro q0 (And.intro q1 (And.intro q2 q3)))
      have hbd : b < wr.drew.heap.size := hb
      have hpd : b2 < wr.drew.heap.size := hb2
      have hB' : Hid (Below w.heap.size w wr.drew) := hid hB.out.drew
      have hsd : w.heap.size ≤ wr.drew.heap.size := hsz
      clear q0 q1 q2 q3 d0 d1 f0 f1
      go_wp2_with fail
      go_region_held3 (fun w' => w'.cell? ⟨b, off + j * 2, none⟩ = some (.int .i64 t) ∧ w'.cell? ⟨b, off + j * 2 + 1, none⟩ = some (.int .i64 g) ∧ w'.cell? ⟨b2, off2 + j * 2, none⟩ = some (.int .i64 t) ∧ w'.cell? ⟨b2, off2 + j * 2 + 1, none⟩ = some (.int .i64 g))
        (first | with_reducible exact ⟨Q.out.1, Q.out.2.1, Q.out.2.2.1, Q.out.2.2.2⟩ | with_reducible exact ⟨Q2.out.1, Q2.out.2.1, Q2.out.2.2.1, Q2.out.2.2.2⟩)
        (first | (go_at_call 28; (with_reducible refine (eqStamp_same _ _ _).mono ?_); rintro e w5 ⟨rfl, hb5⟩; have Q2 := hid (And.intro ((hb5.cell (p := ⟨b, off + j * 2, none⟩) hbd).trans Q.out.1) (And.intro ((hb5.cell (p := ⟨b, off + j * 2 + 1, none⟩) hbd).trans Q.out.2.1) (And.intro ((hb5.cell (p := ⟨b2, off2 + j * 2, none⟩) hpd).trans Q.out.2.2.1) ((hb5.cell (p := ⟨b2, off2 + j * 2 + 1, none⟩) hpd).trans Q.out.2.2.2))))))
      have B5 := hid (hB'.out.trans (hb5.mono hsd))
      clear hb5
      go_wp2
      go_roundw
      case rel => exact ⟨j + 1, by omega, by go_num, B5⟩
      case measure => simp [intOf]; omega
    · go_wp2
      go_ret
      exact ⟨rfl, hB.out⟩

end Go.Proofs.Ytjmhedolidkdhaa
