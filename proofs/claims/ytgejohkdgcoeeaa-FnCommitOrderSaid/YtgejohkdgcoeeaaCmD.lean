/-
  Contracts of the program's lengths of copies: leader, repaired, list. No condition but lengths below 2^40.
-/
import Derived.Test.YtgejohkdgcoeeaaCmC
namespace Go.Proofs.Ytgejohkdgcoeeaa
open Go.RowKit

set_option maxHeartbeats 1000000 in
theorem leader_any {B p m c : Nat} {A : Option Addr} {xs live : List Int} (hx : xs.length = 7) (hm : m ≤ 7) (hlv : liveB m live = true) (w : World) (hr : RdI w B A p live) (hB0 : B ≤ w.heap.size) (hp : p < 1099511627776) :
    Calls Try.prog 33 #[clv ((m : Int) :: xs), .slice A p c] w fun e w' => e = .returned (.int .i64 (ldr xs live)) ∧ Below w.heap.size w w' := by
  have hA : AtC (w.alloc (.cells (ints ((m : Int) :: xs)).toArray 43)) w.heap.size ((m : Int) :: xs) := AtC.new w _
  have hB : Below w.heap.size w (w.alloc (.cells (ints ((m : Int) :: xs)).toArray 43)) := below_one _ _
  have hR : Hid (RdI (w.alloc (.cells (ints ((m : Int) :: xs)).toArray 43)) B A p live) := hid (Reads.alloc hr hB0 _)
  have hl' := hid hr.len
  clear hr
  have hok := hid (liveB_ok hlv).2
  have hp1 : 1 ≤ p := by
    have := (liveB_ok hlv).1
    rw [hl'.out] at this; omega
  clear hlv
  obtain ⟨a0, a1, a2, a3, a4, a5, a6, e⟩ := seven hx
  have hx' := hid hx
  have hA' := hid hA
  have hB' := hid hB
  clear hA hB
  obtain ⟨ad0, z0, rfl, hz0, hc0⟩ := RdI.at' hR.out (k := 0) (by omega)
  have hd0 : Hid (live.headD 0 = z0) := hid (by
    have := hz0.out
    cases live with
    | nil => simpa using this
    | cons a l => simpa using this)
  have hc00 : ∀ W : World, W = (w.alloc (.cells (ints ((m : Int) :: xs)).toArray 43)) → W.cell? ad0 = some (.int .i64 z0) := fun W h => by rw [h]; exact hc0
  have hc1 := hc00 (w.alloc (.cells #[.int .i64 (m : Int), .int .i64 a0, .int .i64 a1, .int .i64 a2, .int .i64 a3, .int .i64 a4, .int .i64 a5, .int .i64 a6] 43)) (by rw [e]; rfl)
  clear hc0 hc00
  rw [e]
  go_enter Try.func33, Try.ntmps33
  go_wp2
  clear hc1
  generalize hW : w.alloc _ = W
  have hA2 : Hid (AtC W w.heap.size ((m : Int) :: xs)) := hid (by rw [← hW]; simpa [e] using hA'.out)
  have hB2 : Hid (Below w.heap.size w W) := hid (by rw [← hW]; simpa [e] using hB'.out)
  have hR2 : Hid (RdI W B (some ad0) p live) := hid (by rw [← hW]; simpa [e] using hR.out)
  clear hW hA' hB' hR
  have e' := hid e
  clear e
  go_loopw [5, 13] (fun l i wr => ∃ (k : Nat) (g : Int), k ≤ p ∧ i = .int .i64 k ∧ l = .int .i64 g ∧ 0 ≤ g ∧ g < m ∧ Qt W wr ∧ Hid (g = (live.take k).foldl (ldrF xs) (live.headD 0))) (fun _ i _ => p - (intOf i).toNat)
  case atStart =>
    have h1 := okLv_rng (hok.out 0 (by rw [hl'.out]; omega))
    rw [hz0.out] at h1
    exact ⟨0, z0, by omega, rfl, rfl, h1.1, h1.2, Qt.refl _, hid (by rw [hd0.out]; rfl)⟩
  case round =>
    obtain ⟨k, g, hk, rfl, rfl, hg0, hg1, hq, hg⟩ := hrel
    by_cases hlt : k < p
    · obtain ⟨ad, z, e1, hz, hc⟩ := RdI.at' (hq.reads hR2.out) hlt
      injection e1 with e1
      subst e1
      have hzr := okLv_rng (hok.out k (by rw [hl'.out]; exact hlt))
      rw [hz.out] at hzr
      obtain ⟨hzr0, hzr1⟩ := hzr
      have hs := hid (foldl_take_succ (ldrF xs) (live.headD 0) (by rw [hl'.out]; exact hlt) hz.out)
      clear hz
      obtain ⟨j, rfl⟩ := Int.eq_ofNat_of_zero_le hzr0
      obtain ⟨j3, rfl⟩ := Int.eq_ofNat_of_zero_le hg0
      have hj7 : j < 7 := by omega
      have hj37 : j3 < 7 := by omega
      have hc2 := (hA2.out.quiet hq).arr (k := j) (by rw [hx'.out]; exact hj7)
      have hc3 := (hA2.out.quiet hq).arr (k := j3) (by rw [hx'.out]; exact hj37)
      obtain ⟨x, hxx⟩ : ∃ x, xs.getD j 0 = x := ⟨_, rfl⟩
      obtain ⟨y, hyy⟩ : ∃ y, xs.getD j3 0 = y := ⟨_, rfl⟩
      rw [hxx] at hc2
      rw [hyy] at hc3
      have hxx' := hid hxx
      have hyy' := hid hyy
      clear hxx hyy
      by_cases hxy : y < x
      · have hn' : Hid ((j : Int) = (live.take (k + 1)).foldl (ldrF xs) (live.headD 0)) := hid (by
          rw [hs.out, ← hg.out, ldrF, Int.toNat_natCast, Int.toNat_natCast, hxx'.out, hyy'.out, if_pos hxy])
        clear hs
        go_wp2
        go_quiet (fail)
        go_wp2
        go_roundw
        case rel => exact ⟨k + 1, j, by omega, by go_num, rfl, by omega, by omega, hq.drewN _, hn'⟩
        case measure => simp [intOf]; omega
      · have hn' : Hid ((j3 : Int) = (live.take (k + 1)).foldl (ldrF xs) (live.headD 0)) := hid (by
          rw [hs.out, ← hg.out, ldrF, Int.toNat_natCast, Int.toNat_natCast, hxx'.out, hyy'.out, if_neg hxy])
        clear hs
        go_wp2
        go_quiet (fail)
        go_wp2
        go_roundw
        case rel => exact ⟨k + 1, j3, by omega, by go_num, rfl, by omega, by omega, hq.drewN _, hn'⟩
        case measure => simp [intOf]; omega
    · have hfin : Hid (ldr xs live = g) := hid (by
        rw [← ldr_all, hg.out, List.take_of_length_le (by rw [hl'.out]; omega)])
      have hB3 := hid (hB2.out.trans (hq.below _))
      go_wp2
      go_ret
      exact ⟨by rw [← e'.out, hfin.out]; rfl, hq.below _ |> hB2.out.trans⟩

/-- the eight cells of a struct of lengths -/
theorem AtC.eight {w : World} {b : Nat} {m a0 a1 a2 a3 a4 a5 a6 : Int} (h : AtC w b [m, a0, a1, a2, a3, a4, a5, a6]) :
    w.cell? ⟨b, 0, none⟩ = some (.int .i64 m) ∧ w.cell? ⟨b, 1, none⟩ = some (.int .i64 a0) ∧ w.cell? ⟨b, 2, none⟩ = some (.int .i64 a1) ∧ w.cell? ⟨b, 3, none⟩ = some (.int .i64 a2) ∧ w.cell? ⟨b, 4, none⟩ = some (.int .i64 a3) ∧ w.cell? ⟨b, 5, none⟩ = some (.int .i64 a4) ∧ w.cell? ⟨b, 6, none⟩ = some (.int .i64 a5) ∧ w.cell? ⟨b, 7, none⟩ = some (.int .i64 a6) :=
  ⟨h.cell (k := 0) (by simp), h.cell (k := 1) (by simp), h.cell (k := 2) (by simp), h.cell (k := 3) (by simp), h.cell (k := 4) (by simp), h.cell (k := 5) (by simp), h.cell (k := 6) (by simp), h.cell (k := 7) (by simp)⟩

theorem AtC.thaw {w : World} {b : Nat} {ys : List Int} (h : AtC w b ys) :
    w.frozen? ⟨b, 0, none⟩ = false ∧ w.frozen? ⟨b, 1, none⟩ = false ∧ w.frozen? ⟨b, 2, none⟩ = false ∧ w.frozen? ⟨b, 3, none⟩ = false ∧ w.frozen? ⟨b, 4, none⟩ = false ∧ w.frozen? ⟨b, 5, none⟩ = false ∧ w.frozen? ⟨b, 6, none⟩ = false ∧ w.frozen? ⟨b, 7, none⟩ = false :=
  ⟨h.fr 0, h.fr 1, h.fr 2, h.fr 3, h.fr 4, h.fr 5, h.fr 6, h.fr 7⟩
/-- what a store of a whole struct leaves -/
theorem AtC.put {w : World} {b : Nat} {m a0 a1 a2 a3 a4 a5 a6 n b0 b1 b2 b3 b4 b5 b6 : Int} (h : AtC w b [m, a0, a1, a2, a3, a4, a5, a6]) :
    AtC ((((((((w.setCell ⟨b, 0, none⟩ (.int .i64 n)).setCell ⟨b, 1, none⟩ (.int .i64 b0)).setCell ⟨b, 2, none⟩ (.int .i64 b1)).setCell ⟨b, 3, none⟩ (.int .i64 b2)).setCell ⟨b, 4, none⟩ (.int .i64 b3)).setCell ⟨b, 5, none⟩ (.int .i64 b4)).setCell ⟨b, 6, none⟩ (.int .i64 b5)).setCell ⟨b, 7, none⟩ (.int .i64 b6)) b [n, b0, b1, b2, b3, b4, b5, b6] :=
  (((((((h.set 0 n).set 1 b0).set 2 b1).set 3 b2).set 4 b3).set 5 b4).set 6 b5).set 7 b6

theorem below_put {B b : Nat} {v w : World} {n b0 b1 b2 b3 b4 b5 b6 : Value} (h : Below B v w) (hb : B ≤ b) :
    Below B v ((((((((w.setCell ⟨b, 0, none⟩ n).setCell ⟨b, 1, none⟩ b0).setCell ⟨b, 2, none⟩ b1).setCell ⟨b, 3, none⟩ b2).setCell ⟨b, 4, none⟩ b3).setCell ⟨b, 5, none⟩ b4).setCell ⟨b, 6, none⟩ b5).setCell ⟨b, 7, none⟩ b6) :=
  (((((((h.setCell (p := ⟨b, 0, none⟩) hb _).setCell (p := ⟨b, 1, none⟩) hb _).setCell (p := ⟨b, 2, none⟩) hb _).setCell (p := ⟨b, 3, none⟩) hb _).setCell (p := ⟨b, 4, none⟩) hb _).setCell (p := ⟨b, 5, none⟩) hb _).setCell (p := ⟨b, 6, none⟩) hb _).setCell (p := ⟨b, 7, none⟩) hb _

abbrev zeros8 : List Int := [0, 0, 0, 0, 0, 0, 0, 0]

set_option maxHeartbeats 2000000 in
theorem repaired_any {B p m c : Nat} {A : Option Addr} {xs live : List Int} (hx : xs.length = 7) (hm : m ≤ 7) (hlv : liveB m live = true) (w : World) (hr : RdI w B A p live) (hB0 : B ≤ w.heap.size) (hp : p < 1099511627776) :
    Calls Try.prog 35 #[clv ((m : Int) :: xs), .slice A p c] w fun e w' => e = .returned (clv ((m : Int) :: rep xs live)) ∧ Below w.heap.size w w' := by
  obtain ⟨a0, a1, a2, a3, a4, a5, a6, e⟩ := seven hx
  have hA : AtC ((w.alloc (.cells (ints ((m : Int) :: xs)).toArray 43)).alloc (.cells (ints zeros8).toArray 43)) w.heap.size ((m : Int) :: xs) := (AtC.new w _).alloc _
  have hZ : AtC ((w.alloc (.cells (ints ((m : Int) :: xs)).toArray 43)).alloc (.cells (ints zeros8).toArray 43)) (w.heap.size + 1) zeros8 := by
    have := AtC.new (w.alloc (.cells (ints ((m : Int) :: xs)).toArray 43)) zeros8
    simpa using this
  have hB : Below w.heap.size w ((w.alloc (.cells (ints ((m : Int) :: xs)).toArray 43)).alloc (.cells (ints zeros8).toArray 43)) := (below_one _ _).alloc (by simp) _
  have hR : RdI ((w.alloc (.cells (ints ((m : Int) :: xs)).toArray 43)).alloc (.cells (ints zeros8).toArray 43)) B A p live := Reads.alloc (Reads.alloc hr hB0 _) (by simp; omega) _
  have hl' := hid hr.len
  have hok := hid (liveB_ok hlv).2
  have hld : 0 ≤ ldr xs live ∧ ldr xs live < m := (live_facts hlv).1 _ (ldr_mem (live_ne hlv))
  have hx' := hid hx
  have hlv' := hid hlv
  clear hr hlv
  have hA' := hid hA
  have hB' := hid hB
  have hZ' := hid hZ
  have hR' := hid hR
  clear hA hB hZ hR
  obtain ⟨hld0, hld1⟩ := hld
  rw [e]
  go_enter Try.func35, Try.ntmps35
  go_wp2_with fail
  generalize hW : (w.alloc _).alloc _ = W
  have hA2 : Hid (AtC W w.heap.size ((m : Int) :: xs)) := hid (by rw [← hW]; simpa [e] using hA'.out)
  have hB2 : Hid (Below w.heap.size w W) := hid (by rw [← hW]; simpa [e] using hB'.out)
  have hR2 : Hid (RdI W B A p live) := hid (by rw [← hW]; simpa [e] using hR'.out)
  have hZ2 : Hid (AtC W (w.heap.size + 1) zeros8) := hid (by rw [← hW]; simpa [e] using hZ'.out)
  clear hW hA' hB' hR' hZ'
  refine (leader_any (xs := [a0, a1, a2, a3, a4, a5, a6]) rfl hm hlv'.out W hR2.out (Nat.le_trans hB0 hB2.out.size) hp).mono ?_
  rw [← e]
  rintro e1 w1 ⟨rfl, hb1⟩
  have hA3 := hid (hA2.out.below hb1 hA2.out.lt)
  have hZ3 := hid (hZ2.out.below hb1 hZ2.out.lt)
  have hR3 : Hid (RdI w1 B A p live) := hid (Reads.keep hR2.out fun q hq => hb1.cell (by have := hB2.out.size; omega))
  have hB3 := hid (hB2.out.trans (hb1.mono hB2.out.size))
  clear hb1 hA2 hZ2 hR2 hB2
  have e' := hid e
  clear e
  obtain ⟨g, hg⟩ := Int.eq_ofNat_of_zero_le hld0
  have hv : Hid (xs.getD (ldr xs live).toNat 0 = xs.getD g 0) := hid (by rw [hg, Int.toNat_natCast])
  rw [hg] at hld1 ⊢
  have hc0 := hA3.out.arr (k := g) (by rw [hx'.out]; omega)
  obtain ⟨v, hvv⟩ : ∃ v, xs.getD g 0 = v := ⟨_, rfl⟩
  rw [hvv] at hc0
  have hvv' := hid (hv.out.trans hvv)
  have hg7 : g < 7 := by omega
  clear hvv hg hv hld0
  go_wp2
  clear hc0
  go_loopw [16] (fun i wr => ∃ k : Nat, k ≤ p ∧ i = .int .i64 k ∧ Hid (AtC wr w.heap.size ((m : Int) :: setAll v xs (live.take k))) ∧ Hid (AtC wr (w.heap.size + 1) zeros8) ∧ Hid (RdI wr B A p live) ∧ Hid (Below w.heap.size w wr)) (fun i _ => p - (intOf i).toNat)
  case atStart => exact ⟨0, by omega, rfl, hA3, hZ3, hR3, hB3⟩
  case round =>
    obtain ⟨k, hk, rfl, hA4, hZ4, hR4, hB4⟩ := hrel
    by_cases hlt : k < p
    · obtain ⟨ad, z, rfl, hz, hc⟩ := RdI.at' hR4.out hlt
      have hzr := okLv_rng (hok.out k (by rw [hl'.out]; exact hlt))
      rw [hz.out] at hzr
      obtain ⟨hzr0, hzr1⟩ := hzr
      have hs := hid (setAll_succ (v := v) (zs := xs) (by rw [hl'.out]; exact hlt) hz.out)
      clear hz
      obtain ⟨j, rfl⟩ := Int.eq_ofNat_of_zero_le hzr0
      have hj7 : j < 7 := by omega
      have hl7 := hid (show (setAll v xs (live.take k)).length = 7 by rw [setAll_len]; exact hx'.out)
      have hc2 := hA4.out.arr (k := j) (by rw [hl7.out]; exact hj7)
      have hf2 := hA4.out.fr (1 + j)
      have hne : w.heap.size + 1 ≠ w.heap.size := by omega
      go_wp2
      go_roundw
      case rel =>
        refine ⟨k + 1, by omega, by go_num, hid ?_, hid (hZ4.out.far (p := ⟨w.heap.size, 1 + j, none⟩) hne _), hid (Reads.setCell hR4.out (p := ⟨w.heap.size, 1 + j, none⟩) hB0 _), hid (hB4.out.setCell (p := ⟨w.heap.size, 1 + j, none⟩) (Nat.le_refl _) _)⟩
        rw [hs.out, Int.toNat_natCast]
        exact hA4.out.setArr j v
      case measure => simp [intOf]; omega
    · have hs : Hid (setAll v xs (live.take k) = rep xs live) := hid (by
        rw [rep, hvv'.out, List.take_of_length_le (by rw [hl'.out]; omega)])
      have hl7 : (rep xs live).length = 7 := by rw [rep_len]; exact hx'.out
      rw [hs.out] at hA4
      obtain ⟨b0, b1, b2, b3, b4, b5, b6, e2⟩ := seven hl7
      have hA5 : Hid (AtC wr w.heap.size [(m : Int), b0, b1, b2, b3, b4, b5, b6]) := hid (by rw [← e2]; exact hA4.out)
      have e2' := hid e2
      clear e2 hA4 hs hl7
      obtain ⟨c0, c1, c2, c3, c4, c5, c6, c7⟩ := hA5.out.eight
      obtain ⟨d0, d1, d2, d3, d4, d5, d6, d7⟩ := hZ4.out.eight
      obtain ⟨f0, f1, f2, f3, f4, f5, f6, f7⟩ := hZ4.out.thaw
      go_wp2
      refine bodyPost_ret (v := clv [(m : Int), b0, b1, b2, b3, b4, b5, b6]) (by simp [results, Try.results35, go_sem, d0, d1, d2, d3, d4, d5, d6, d7]) rfl ⟨?_, below_put hB4.out (by omega)⟩
      rw [← e'.out, e2'.out]
end Go.Proofs.Ytgejohkdgcoeeaa
