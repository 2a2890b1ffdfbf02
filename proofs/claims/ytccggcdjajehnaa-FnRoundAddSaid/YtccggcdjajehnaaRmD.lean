/-
  Contracts of the program's rounds: got, round. Masks are below 32. No condition.
-/
import Derived.Test.YtccggcdjajehnaaRmC
namespace Go.Proofs.Ytccggcdjajehnaa
open Go.RowKit
set_option linter.unusedVariables false
set_option linter.unusedSimpArgs false

/-- what a call that makes a slice of stamps hands back -/
def StPost (xs : List St) (w : World) (e : Ending) (w' : World) : Prop :=
  ∃ (A : Option Addr) (c : Nat), e = .returned (.slice A xs.length c) ∧ OwS w' w.heap.size (.slice A xs.length c) xs ∧ Below w.heap.size w w'

theorem take_map_succ (T : Nat → St) {es : List Int} {k : Nat} {z : Int} (hk : k < es.length) (hz : es.getD k 0 = z) : (es.take (k + 1)).map (fun g => T g.toNat) = (es.take k).map (fun g => T g.toNat) ++ [T z.toNat] := by
  have e : es[k] = z := by rw [← hz]; simp [hk]
  rw [List.take_add_one, List.getElem?_eq_getElem hk, e]; simp

set_option maxHeartbeats 2000000 in
theorem got_any {a d : Nat} (m : Int) (T : Nat → St) (hd : d < 32) (w : World) :
    Calls Try.prog 40 #[grV a m d T] w (StPost ((elemsM d).map fun g => T g.toNat) w) := by
  have hK0 := hid (show At13 ((w.alloc (.cells (grC a m d T) 57)).alloc (.cells #[] 33)) w.heap.size a m d T from (Cs.new w _ _).alloc _)
  have hB0 := hid (below2 w (.cells (grC a m d T) 57) (.cells #[] 33))
  have hO0 := hid (OwS.empty_lit (w.alloc (.cells (grC a m d T) 57)) (B := w.heap.size) (by simp))
  have hz0 : w.heap.size < ((w.alloc (.cells (grC a m d T) 57)).alloc (.cells #[] 33)).heap.size := by simp; omega
  obtain ⟨n, hn⟩ : ∃ n, (elemsM d).length = n := ⟨_, rfl⟩
  have hn5 : n ≤ 5 := by
    rw [← hn]; exact grps_len (fun g => d.testBit g.toNat) 5
  have hes := hid (fun z (hz : z ∈ elemsM d) => (elemsM_mem.1 hz).1)
  have hn' := hid hn
  clear hn
  go_enter Try.func40, Try.ntmps40
  go_wp2_with fail
  refine (groups_any d hd _).mono ?_
  rintro e w1 ⟨v1, rfl, ho1, hb1⟩
  obtain ⟨A1, c1, rfl, hr1⟩ := ho1.form
  rw [hn'.out] at hr1
  rw [hn'.out]
  have hK1 := hid (hK0.out.step hb1)
  have hB1 := hid (hB0.out.trans (hb1.mono (by omega)))
  have hO1 := hid (hO0.out.below hb1)
  have hI1 := hid (show OwI w1 w.heap.size (.slice A1 n c1) (elemsM d) from by rw [← hn'.out]; exact ho1.more (by omega))
  have hz1 : w.heap.size < w1.heap.size := hK1.out.lt
  clear hK0 hB0 hO0 hb1 ho1 hr1
  go_wp2_with fail
  go_loopw [3, 11] (fun v i wr => ∃ (k : Nat) (vv : Value), vv = v ∧ k ≤ n ∧ i = .int .i64 k ∧ Hid (OwS wr w.heap.size v (((elemsM d).take k).map fun g => T g.toNat)) ∧ Hid (OwI wr w.heap.size (.slice A1 n c1) (elemsM d)) ∧ Hid (At13 wr w.heap.size a m d T) ∧ Hid (Below w.heap.size w wr)) (fun _ i _ => n - (intOf i).toNat)
  case atStart => exact ⟨0, _, rfl, by omega, rfl, hid (by simpa using hO1.out), hI1, hK1, hB1⟩
  case round =>
    obtain ⟨k, vv, rfl, hk, rfl, hO, hI, hK, hB⟩ := hrel
    have hsz := hB.out.size
    have hKl := Cs.lt hK.out
    by_cases hlt : k < n
    · obtain ⟨ad, z, rfl, hz, hc⟩ := RdI.at' (hI.out.rd_ hn'.out) hlt
      have hkl := hid (show k < (elemsM d).length by rw [hn'.out]; exact hlt)
      have hzm := hes.out z (by
        have e : (elemsM d)[k]'hkl.out = z := by rw [← hz.out]; simp [hkl.out]
        rw [← e]; exact List.getElem_mem hkl.out)
      obtain ⟨h0, h5⟩ := hzm
      have hs := hid (take_map_succ T hkl.out hz.out)
      clear hz
      obtain ⟨q, rfl⟩ := Int.eq_ofNat_of_zero_le h0
      rw [Int.toNat_natCast] at hs
      have hq5 : q < 5 := by omega
      obtain ⟨p0, p1⟩ := At13.slot hK.out hq5
      have hll : ((elemsM d).take k).length ≤ k := List.length_take_le _ _
      have hwz : w.heap.size ≤ wr.heap.size := by omega
      obtain ⟨L, hL⟩ : ∃ L, (((elemsM d).take k).map fun g => T g.toNat) = L := ⟨_, rfl⟩
      have hLl : L.length ≤ k := by rw [← hL, List.length_map]; exact hll
      rw [hL] at hO hs
      clear hL
      go_wp2_with (at_builtin; (refine wpList_appStG rfl (.tmp 15) (.tmp 20) rfl w.heap.size (T q).1 (T q).2 _ L rfl rfl hO.out hwz (by omega) ?_); intro v2 w2 ho2 hg2)
      have hk2 := hid ((Kp.refl (fun b => vv.ownBlock = some b) wr).grown hg2 (fun b h => .inr h))
      have hI2 := hid (hI.out.kp hk2.out (own_type hI.out hO.out (by decide)))
      have hK2 := hid (Cs.kp hK.out hk2.out (cs_type hK.out hO.out (by decide)))
      have hB2 := hid (hB.out.trans (hk2.out.base hwz (fun b h => (hO.out.lt b h).1)))
      clear hg2 hk2
      go_roundw
      case rel => exact ⟨k + 1, _, rfl, by omega, by go_num, hid (by rw [hs.out]; exact ho2), hI2, hK2, hB2⟩
      case measure => simp [intOf]; omega
    · obtain rfl : k = n := by omega
      have hO2 := hO.out
      rw [List.take_of_length_le (by rw [hn'.out]; omega)] at hO2
      obtain ⟨A, c, rfl, -, -⟩ := hO2.form
      have hO3 := hid hO2
      clear hO2 hO
      go_wp2
      go_ret
      exact ⟨A, c, rfl, hO3.out, hB.out⟩

set_option maxHeartbeats 4000000 in
theorem round_any {a d : Nat} (m : Int) (T : Nat → St) (ha : a < 32) (hd : d < 32) (w : World) :
    Calls Try.prog 35 #[grV a m d T] w (RnPost m (elemsM a) ((elemsM d).map fun g => T g.toNat) w) := by
  obtain ⟨es, hes⟩ : ∃ es, elemsM a = es := ⟨_, rfl⟩
  obtain ⟨ss, hss⟩ : ∃ ss, ((elemsM d).map fun g => T g.toNat) = ss := ⟨_, rfl⟩
  have hgr := hid (groups_any a ha)
  have hgo := hid (got_any (a := a) m T hd)
  rw [hes] at hgr
  rw [hes]
  rw [hss] at hgo
  rw [hss]
  clear hes hss
  obtain ⟨W0, hW0⟩ : ∃ W0, ((w.alloc (.cells (grC a m d T) 57)).alloc (.cells #[.int .i64 0, .slice none 0 0, .slice none 0 0] 28)) = W0 := ⟨_, rfl⟩
  have hB0 := hid (show Below w.heap.size w W0 by rw [← hW0]; exact below2 w _ _)
  have hK0 := hid (show At13 W0 w.heap.size a m d T by rw [← hW0]; exact (Cs.new w _ _).alloc _)
  have hZ0 := hid (show Cs W0 (w.heap.size + 1) 28 #[.int .i64 0, .slice none 0 0, .slice none 0 0] by rw [← hW0]; exact Cs.new' _ _ _ (by simp))
  have KA : Hid (∀ X, Below (w.heap.size + 1) W0 X → X.cell? ⟨w.heap.size, 0, none⟩ = some (.int .u64 a) ∧ X.cell? ⟨w.heap.size, 1, none⟩ = some (.int .i64 m) ∧ X.cell? ⟨w.heap.size, 2, none⟩ = some (.int .u64 d) ∧
    X.cell? ⟨w.heap.size, 3, none⟩ = some (.int .i64 (T 0).1) ∧ X.cell? ⟨w.heap.size, 4, none⟩ = some (.int .i64 (T 0).2) ∧ X.cell? ⟨w.heap.size, 5, none⟩ = some (.int .i64 (T 1).1) ∧ X.cell? ⟨w.heap.size, 6, none⟩ = some (.int .i64 (T 1).2) ∧
    X.cell? ⟨w.heap.size, 7, none⟩ = some (.int .i64 (T 2).1) ∧ X.cell? ⟨w.heap.size, 8, none⟩ = some (.int .i64 (T 2).2) ∧ X.cell? ⟨w.heap.size, 9, none⟩ = some (.int .i64 (T 3).1) ∧ X.cell? ⟨w.heap.size, 10, none⟩ = some (.int .i64 (T 3).2) ∧
    X.cell? ⟨w.heap.size, 11, none⟩ = some (.int .i64 (T 4).1) ∧ X.cell? ⟨w.heap.size, 12, none⟩ = some (.int .i64 (T 4).2)) := hid (fun X h => At13.all (hK0.out.below h (by omega)))
  have D0 := hid (show Below (w.heap.size + 1) W0 W0.drew from (Below.refl _ _).drew)
  have HZ := hZ0.out.lt
  have HZ' : w.heap.size + 1 ≤ W0.drew.heap.size := Nat.le_of_lt HZ
  have zb : w.heap.size + 1 ≤ w.heap.size + 1 := Nat.le_refl _
  replace hW0 := hid hW0
  go_enter Try.func35, Try.ntmps35
  go_upto_region 1 with (fail)
  rw [hW0.out]
  go_region_held3 (fun X => X.cell? ⟨w.heap.size, 0, none⟩ = some (.int .u64 a) ∧ X.cell? ⟨w.heap.size, 1, none⟩ = some (.int .i64 m) ∧ X.cell? ⟨w.heap.size, 2, none⟩ = some (.int .u64 d) ∧
    X.cell? ⟨w.heap.size, 3, none⟩ = some (.int .i64 (T 0).1) ∧ X.cell? ⟨w.heap.size, 4, none⟩ = some (.int .i64 (T 0).2) ∧ X.cell? ⟨w.heap.size, 5, none⟩ = some (.int .i64 (T 1).1) ∧ X.cell? ⟨w.heap.size, 6, none⟩ = some (.int .i64 (T 1).2) ∧
    X.cell? ⟨w.heap.size, 7, none⟩ = some (.int .i64 (T 2).1) ∧ X.cell? ⟨w.heap.size, 8, none⟩ = some (.int .i64 (T 2).2) ∧ X.cell? ⟨w.heap.size, 9, none⟩ = some (.int .i64 (T 3).1) ∧ X.cell? ⟨w.heap.size, 10, none⟩ = some (.int .i64 (T 3).2) ∧
    X.cell? ⟨w.heap.size, 11, none⟩ = some (.int .i64 (T 4).1) ∧ X.cell? ⟨w.heap.size, 12, none⟩ = some (.int .i64 (T 4).2))
    (first | with_reducible exact KA.out _ D0.out | with_reducible exact KA.out _ D1.out | with_reducible exact KA.out _ D2.out | with_reducible exact KA.out _ (((D2.out.setCell (p := ⟨_, 0, none⟩) zb _).setCell (p := ⟨_, 1, none⟩) zb _).setCell (p := ⟨_, 2, none⟩) zb _))
    (first
      | (go_at_call 41; (with_reducible refine (hgr.out _).mono ?_); rintro e X1 ⟨v1, rfl, o1, hb1⟩; obtain ⟨A1, c1, rfl, -⟩ := o1.form; have o1 := hid o1; have D1 := hid (D0.out.trans (hb1.mono HZ')); have zs1 := hb1.size; have zz1 := Nat.le_trans HZ' zs1; have Z1 := hid ((hZ0.out.drew).step hb1); clear hb1)
      | (go_at_call 40; (with_reducible refine (hgo.out _).mono ?_); rintro e X2 ⟨A2, c2, rfl, o2, hb2⟩; have o2 := hid o2; have p1 := hid (o1.out.stp hb2); have D2 := hid (D1.out.trans (hb2.mono zz1)); have zz2 := Nat.le_trans zz1 hb2.size; have Z2 := hid (Z1.out.step hb2); obtain ⟨z0, z1, z2⟩ := Z2.out.three; obtain ⟨f0, f1, f2⟩ := Z2.out.free3; clear hb2))
  clear KA D0 D1
  have lt1 : w.heap.size + 1 < W0.drew.heap.size := HZ
  have R2 := hid (show OwR X2 W0.drew.heap.size A1 es.length c1 A2 ss.length c2 es ss from ⟨p1.out, o2.out.more zs1, rfl, rfl⟩)
  have R3 := hid (((R2.out.setLow (p := ⟨w.heap.size + 1, 0, none⟩) lt1 (.int .i64 m)).setLow (p := ⟨w.heap.size + 1, 1, none⟩) lt1 (.slice A1 es.length c1)).setLow (p := ⟨w.heap.size + 1, 2, none⟩) lt1 (.slice A2 ss.length c2))
  have B3 := hid ((((hB0.out.trans (D2.out.mono (by omega))).setCell (p := ⟨w.heap.size + 1, 0, none⟩) (by simp) (.int .i64 m)).setCell (p := ⟨w.heap.size + 1, 1, none⟩) (by simp) (.slice A1 es.length c1)).setCell (p := ⟨w.heap.size + 1, 2, none⟩) (by simp) (.slice A2 ss.length c2))
  obtain ⟨y0, y1, y2⟩ := (Z2.out.set3 (.int .i64 m) (.slice A1 es.length c1) (.slice A2 ss.length c2)).three
  clear R2 z0 z1 z2 f0 f1 f2
  go_wp2
  refine bodyPost_ret (v := rnV m (.slice A1 es.length c1) (.slice A2 ss.length c2)) (by simp [results, Try.results35, go_sem, y0, y1, y2]) rfl ⟨A1, c1, A2, c2, rfl, R3.out.more (by omega), B3.out⟩
end Go.Proofs.Ytccggcdjajehnaa
