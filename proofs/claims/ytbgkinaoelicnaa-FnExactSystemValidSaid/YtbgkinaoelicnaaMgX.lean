/-
  Several of my texts in one: GxA GxB GxC. No condition.
-/
import Derived.Test.YtbgkinaoelicnaaFrameG
import Derived.Test.YtbgkinaoelicnaaGmH
import Derived.Test.YtbgkinaoelicnaaMgA
import Derived.Test.YtbgkinaoelicnaaMgB
import Derived.Deep.CutBlock
import Derived.Deep.RegionLaw
import Derived.Deep.RegionHeld3
import Derived.Test.YtbgkinaoelicnaaMgF

namespace Go.Proofs.Ytbgkinaoelicnaa
open Go.RowKit
set_option linter.unusedVariables false
set_option linter.unusedSimpArgs false

set_option maxHeartbeats 400000 in
theorem toStamp_any (a b : Int) (w : World) :
    Calls Try.prog 37 #[two a b] w fun e w' => e = .returned (two a b) ∧ Below w.heap.size w w' := by
  have B := hid (below3 w (.cells #[.int .i64 a, .int .i64 b] 62) (.cells #[.int .i64 a, .int .i64 b] 38) (.cells #[.int .i64 a, .int .i64 b] 38))
  go_enter Try.func37, Try.ntmps37
  go_wp2
  exact bodyPost_ret (v := two a b) (by simp [results, Try.results37, go_sem]) rfl ⟨rfl, B.out⟩

set_option maxHeartbeats 400000 in
theorem eqStamp_same (a b : Int) (w : World) :
    Calls Try.prog 40 #[two a b, two a b] w fun e w' => e = .returned (.bool true) ∧ Below w.heap.size w w' := by
  have B := hid (below2 w (.cells #[.int .i64 a, .int .i64 b] 38) (.cells #[.int .i64 a, .int .i64 b] 38))
  go_enter Try.func40, Try.ntmps40
  go_wp2
  go_ret
  exact ⟨rfl, B.out⟩

set_option maxHeartbeats 1000000 in
theorem szEntryS_any {n c : Nat} {A : Option Addr} (l : Int) (w : World) (hn : n ≤ 9223372036854775807) (h0 : 0 ≤ l) (h1 : l ≤ 1048576) :
    Calls Try.prog 17 #[.slice A n c, .int .i64 l] w fun e w' => e = .returned (.int .i64 (if (n : Int) ≤ l then l - (n : Int) else -1)) ∧ w = w' := by
  by_cases h : (n : Int) ≤ l
  · have R := hid (show (if (n : Int) ≤ l then l - (n : Int) else -1) = l - (n : Int) from if_pos h)
    go_enter Try.func17, Try.ntmps17
    go_wp2
    go_ret
    exact ⟨rfl, rfl⟩
  · have R := hid (show (if (n : Int) ≤ l then l - (n : Int) else -1) = -1 from if_neg h)
    go_enter Try.func17, Try.ntmps17
    go_wp2
    go_ret
    exact ⟨rfl, rfl⟩

set_option maxHeartbeats 1000000 in
theorem szGroup_any {n c m d : Nat} {A B : Option Addr} {r : Int} (i k : Int) (w : World) (hn : n ≤ 9223372036854775807) (hm : m ≤ 9223372036854775807) (hr : (if n + m ≤ 1048576 then 1048576 - (n : Int) - (m : Int) else -1) = r) :
    Calls Try.prog 9 #[gpV i k (.slice A n c) (.slice B m d), .int .i64 1048576] w fun e w' => e = .returned (.int .i64 r) ∧ Below w.heap.size w w' := by
  have hB := hid (below1 w (.cells #[.int .i64 i, .int .i64 k, .slice A n c, .slice B m d] 32))
  by_cases h1 : n ≤ 1048576
  · have hz : (if (n : Int) ≤ 1048576 then (1048576 : Int) - (n : Int) else -1) = 1048576 - (n : Int) := if_pos (by omega)
    by_cases h2 : n + m ≤ 1048576
    · have hr' := hid (show 1048576 - (n : Int) - (m : Int) = r by rw [← hr, if_pos h2])
      have hz2 : (if (m : Int) ≤ 1048576 - (n : Int) then (1048576 - (n : Int)) - (m : Int) else -1) = 1048576 - (n : Int) - (m : Int) := if_pos (by omega)
      replace hz := hid hz
      replace hz2 := hid hz2
      clear hr
      go_enter Try.func9, Try.ntmps9
      go_wp2_with fail
      refine (szEntryS_any _ _ hn (by omega) (by omega)).mono ?_
      rw [hz.out]
      rintro e w1 ⟨rfl, rfl⟩
      go_wp2_with fail
      refine (szEntryS_any _ _ hm (by omega) (by omega)).mono ?_
      rw [hz2.out]
      rintro e w1 ⟨rfl, rfl⟩
      go_wp2
      go_ret
      exact ⟨ret_int hr'.out, hB.out⟩
    · have hr' := hid (show (-1 : Int) = r by rw [← hr, if_neg h2])
      have hz2 : (if (m : Int) ≤ 1048576 - (n : Int) then (1048576 - (n : Int)) - (m : Int) else -1) = -1 := if_neg (by omega)
      replace hz := hid hz
      replace hz2 := hid hz2
      clear hr
      go_enter Try.func9, Try.ntmps9
      go_wp2_with fail
      refine (szEntryS_any _ _ hn (by omega) (by omega)).mono ?_
      rw [hz.out]
      rintro e w1 ⟨rfl, rfl⟩
      go_wp2_with fail
      refine (szEntryS_any _ _ hm (by omega) (by omega)).mono ?_
      rw [hz2.out]
      rintro e w1 ⟨rfl, rfl⟩
      go_wp2
      go_ret
      exact ⟨ret_int hr'.out, hB.out⟩
  · have hr' := hid (show (-1 : Int) = r by rw [← hr, if_neg (by omega)])
    have hz := hid (show (if (n : Int) ≤ 1048576 then (1048576 : Int) - (n : Int) else -1) = -1 from if_neg (by omega))
    clear hr
    go_enter Try.func9, Try.ntmps9
    go_wp2_with fail
    refine (szEntryS_any _ _ hn (by omega) (by omega)).mono ?_
    rw [hz.out]
    rintro e w1 ⟨rfl, rfl⟩
    go_wp2
    go_ret
    exact ⟨ret_int hr'.out, hB.out⟩

set_option maxHeartbeats 1000000 in
theorem toEntry_any (m t g : Int) (f : Bool) (w : World) :
    Calls Try.prog 33 #[enV m t g f] w fun e w' => e = .returned (enV m t g f) ∧ Below w.heap.size w w' := by
  have B := hid (below3 w (.cells #[.int .i64 m, .int .i64 t, .int .i64 g, .bool f] 64) (.cells #[.int .i64 0, .int .i64 0, .int .i64 0, .bool false] 40) (.cells #[.int .i64 m, .int .i64 0, .int .i64 0, .bool false] 40))
  have C0 := hid (((Cs.new w 64 #[.int .i64 m, .int .i64 t, .int .i64 g, .bool f]).alloc (.cells #[.int .i64 0, .int .i64 0, .int .i64 0, .bool false] 40)).alloc (.cells #[.int .i64 m, .int .i64 0, .int .i64 0, .bool false] 40))
  have C1 := hid ((Cs.new (w.alloc (.cells #[.int .i64 m, .int .i64 t, .int .i64 g, .bool f] 64)) 40 #[.int .i64 0, .int .i64 0, .int .i64 0, .bool false]).alloc (.cells #[.int .i64 m, .int .i64 0, .int .i64 0, .bool false] 40))
  have C2 := hid (Cs.new ((w.alloc (.cells #[.int .i64 m, .int .i64 t, .int .i64 g, .bool f] 64)).alloc (.cells #[.int .i64 0, .int .i64 0, .int .i64 0, .bool false] 40)) 40 #[.int .i64 m, .int .i64 0, .int .i64 0, .bool false])
  go_enter Try.func33, Try.ntmps33
  go_wp2_with fail
  refine (toStamp_any _ _ _).mono ?_
  rintro e w1 ⟨rfl, hb1⟩
  have hz : w.heap.size + 1 + 1 < w1.heap.size := by have := hb1.size; simp at this; omega
  have hB1 := hid (B.out.trans (hb1.mono (by simp; omega)))
  obtain ⟨c0, c1, c2, c3⟩ := (C0.out.step hb1).four
  have D1 : Cs w1 (w.heap.size + 1) 40 #[.int .i64 0, .int .i64 0, .int .i64 0, .bool false] := by simpa using C1.out.step hb1
  have D2 : Cs w1 (w.heap.size + 1 + 1) 40 #[.int .i64 m, .int .i64 0, .int .i64 0, .bool false] := by simpa using C2.out.step hb1
  obtain ⟨d0, d1, d2, d3⟩ := D1.four
  obtain ⟨f0, f1, f2, f3⟩ := D1.free4
  obtain ⟨x0, x1, x2, x3⟩ := D2.four
  obtain ⟨y0, y1, y2, y3⟩ := D2.free4
  replace D1 := hid D1
  replace D2 := hid D2
  clear hb1 C0 C1 C2 B
  go_upto_region 5 with (fail)
  obtain ⟨W, hW⟩ : ∃ W, (((w1.setCell ⟨w.heap.size + 1 + 1, 1, none⟩ (.int .i64 t)).setCell ⟨w.heap.size + 1 + 1, 2, none⟩ (.int .i64 g)).setCell ⟨w.heap.size + 1 + 1, 3, none⟩ (.bool f)) = W := ⟨_, rfl⟩
  rw [hW]
  have X2 : Cs W (w.heap.size + 1 + 1) 40 #[.int .i64 m, .int .i64 t, .int .i64 g, .bool f] := by rw [← hW]; exact ((D2.out.set 1 (.int .i64 t)).set 2 (.int .i64 g)).set 3 (.bool f)
  have X1 : Cs W (w.heap.size + 1) 40 #[.int .i64 0, .int .i64 0, .int .i64 0, .bool false] := by rw [← hW]; exact ((D1.out.far (by simp) _).far (by simp) _).far (by simp) _
  have HB := hid (show Below w.heap.size w ((((W.setCell ⟨w.heap.size + 1, 0, none⟩ (.int .i64 m)).setCell ⟨w.heap.size + 1, 1, none⟩ (.int .i64 t)).setCell ⟨w.heap.size + 1, 2, none⟩ (.int .i64 g)).setCell ⟨w.heap.size + 1, 3, none⟩ (.bool f)) from by
    rw [← hW]
    exact ((((((hB1.out.setCell (by simp; omega) _).setCell (by simp; omega) _).setCell (by simp; omega) _).setCell (by simp) _).setCell (by simp) _).setCell (by simp) _).setCell (by simp) _)
  obtain ⟨p0, p1, p2, p3⟩ := X2.four
  obtain ⟨q0, q1, q2, q3⟩ := X1.four
  obtain ⟨s0, s1, s2, s3⟩ := X1.free4
  have Y := hid ((((X1.set 0 (.int .i64 m)).set 1 (.int .i64 t)).set 2 (.int .i64 g)).set 3 (.bool f) : Cs _ _ _ #[.int .i64 m, .int .i64 t, .int .i64 g, .bool f]).four
  replace X1 := hid X1
  replace X2 := hid X2
  clear hW c0 c1 c2 c3 d0 d1 d2 d3 f0 f1 f2 f3 x0 x1 x2 x3 y0 y1 y2 y3 X1 X2 D1 D2 hB1
  go_wp2
  exact bodyPost_ret (v := enV m t g f) (by simp [results, Try.results33, go_sem, Y.out.1, Y.out.2.1, Y.out.2.2.1, Y.out.2.2.2]) rfl ⟨rfl, HB.out⟩

theorem toList_madeCells_four (m : Nat) : (madeCells #[.int .i64 0, .int .i64 0, .int .i64 0, .bool false] (m * 4)).toList = enc (List.replicate m en0) := by
  apply List.ext_getElem?
  intro i
  by_cases hi : i < m * 4
  · have hq : i / 4 < m := by omega
    have hx : (List.replicate m en0)[i / 4]? = some en0 := by rw [List.getElem?_replicate]; simp [hq]
    obtain ⟨g0, g1, g2, g3⟩ := enc_get (List.replicate m en0) (i / 4) en0 hx
    have hl : (madeCells #[.int .i64 0, .int .i64 0, .int .i64 0, .bool false] (m * 4)).toList[i]? = some (#[Value.int .i64 0, .int .i64 0, .int .i64 0, .bool false].getD (i % 4) default) := by
      have h4 : i % 4 < 4 := Nat.mod_lt _ (by omega)
      simp [madeCells, hi]
    rw [hl]
    rcases (show i % 4 = 0 ∨ i % 4 = 1 ∨ i % 4 = 2 ∨ i % 4 = 3 by omega) with e | e | e | e
    · rw [show i = i / 4 * 4 by omega, g0]; simp [e, en0]
    · rw [show i = i / 4 * 4 + 1 by omega, g1]; simp [e, en0]
    · rw [show i = i / 4 * 4 + 2 by omega, g2]; simp [e, en0]
    · rw [show i = i / 4 * 4 + 3 by omega, g3]; simp [e, en0]
  · rw [List.getElem?_eq_none (by simp [madeCells]; omega), List.getElem?_eq_none (by rw [enc_len, List.length_replicate]; omega)]


set_option maxHeartbeats 4000000 in
theorem toEntryS_any {n c : Nat} {A : Option Addr} {zs : List En} (w : World) (h : RdX w A n zs) (hn : n < 1099511627776) :
    Calls Try.prog 22 #[.slice A n c] w fun e w' => e = .returned (.slice (some ⟨w.heap.size, 0, none⟩) n n) ∧ OwE w' w.heap.size (.slice (some ⟨w.heap.size, 0, none⟩) n n) zs ∧ Below w.heap.size w w' := by
  obtain ⟨i0, hi, hz0, hz1, hz2⟩ := info_parts info_en
  have hlen := hid h.1
  have h' := hid h
  clear h
  go_enter Try.func22, Try.ntmps22
  go_wp2_with (refine wpList_make_full (P := Try.prog) _ rfl _ _ 34 rfl w.heap.size 40 i0 (.agg #[.int .i64 0, .int .i64 0, .int .i64 0, .bool false]) 4 Try.underlying34 hi hz0 hz1 .i64 .i64 _ _ n rfl rfl rfl rfl (by rw [hz2]; omega) (by unfold maxLen; omega) (Nat.le_refl _) ?_; intro w1 hown hgr)
  have hb1 := hid ((Below.refl w.heap.size w).grown hgr (Nat.le_refl _) (fun k h => by cases h))
  have ho1 : OwE w1 w.heap.size (.slice (some ⟨w.heap.size, 0, none⟩) n n) (List.replicate n en0) := by
    show w1.ownsRow w.heap.size 40 4 _ (List.replicate n en0).length (enc (List.replicate n en0))
    rw [← toList_madeCells_four, List.length_replicate]
    exact hown
  have ho1' := hid ho1
  clear ho1 hown hgr hi hz0 hz1 hz2
  go_loopw [4] (fun i wr => ∃ (k : Nat) (ys : List En), k ≤ n ∧ i = .int .i64 k ∧ Hid (ys.length = n) ∧ Hid (OwE wr w.heap.size (.slice (some ⟨w.heap.size, 0, none⟩) n n) ys) ∧ Hid (∀ j, j < k → ys[j]? = zs[j]?) ∧ Hid (Below w.heap.size w wr)) (fun i _ => n - (intOf i).toNat)
  case atStart => exact ⟨0, _, by omega, rfl, hid List.length_replicate, ho1', hid (fun j h => by omega), hb1⟩
  case round =>
    obtain ⟨k, ys, hk, rfl, hyl, hown, hall, hbel⟩ := hrel
    have hsz := hbel.out.size
    by_cases hlt : k < n
    · obtain ⟨ad, m, t, g, f, rfl, hx, c0, c1, c2, c3⟩ := (h'.out.below hbel.out).at_ hlt
      have i0 : (0 : Int) ≤ (k : Int) := by omega
      have i1 : (k : Int) < (n : Int) := by omega
      go_wp2_with fail
      refine (toEntry_any _ _ _ _ _).mono ?_
      rintro e w3 ⟨rfl, hb3⟩
      have ow3 := hid (hown.out.below hb3)
      have B3 := hid (hbel.out.trans (hb3.mono hsz))
      have hkl : k < ys.length := by rw [hyl.out]; exact hlt
      obtain ⟨ym, yt, yg, yf, hy⟩ : ∃ m t g f, ys[k]? = some (m, (t, g), f) := ⟨_, _, _, _, List.getElem?_eq_getElem hkl⟩
      have hyc := enc_get ys k _ hy
      have ow3' : w3.ownsRow w.heap.size 40 4 (.slice (some ⟨w.heap.size, 0, none⟩) n n) n (enc ys) := by
        have := ow3.out
        rw [OwE, hyl.out] at this; exact this
      have hel : k * 4 + 3 < (enc ys).length := by rw [enc_len]; omega
      have d0 : w3.cell? ⟨w.heap.size, k * 4, none⟩ = some (.int .i64 ym) := by rw [ow3'.cellAt (k * 4) (by omega)]; exact hyc.1
      have d1 : w3.cell? ⟨w.heap.size, k * 4 + 1, none⟩ = some (.int .i64 yt) := by rw [ow3'.cellAt (k * 4 + 1) (by omega)]; exact hyc.2.1
      have d2 : w3.cell? ⟨w.heap.size, k * 4 + 2, none⟩ = some (.int .i64 yg) := by rw [ow3'.cellAt (k * 4 + 2) (by omega)]; exact hyc.2.2.1
      have d3 : w3.cell? ⟨w.heap.size, k * 4 + 3, none⟩ = some (.bool yf) := by rw [ow3'.cellAt (k * 4 + 3) (by omega)]; exact hyc.2.2.2
      have e0 : w3.frozen? ⟨w.heap.size, k * 4, none⟩ = false := ow3'.frozenAt (k * 4)
      have e1 : w3.frozen? ⟨w.heap.size, k * 4 + 1, none⟩ = false := ow3'.frozenAt (k * 4 + 1)
      have e2 : w3.frozen? ⟨w.heap.size, k * 4 + 2, none⟩ = false := ow3'.frozenAt (k * 4 + 2)
      have e3 : w3.frozen? ⟨w.heap.size, k * 4 + 3, none⟩ = false := ow3'.frozenAt (k * 4 + 3)
      have hst := hid (OwE.put ow3.out hyl.out k (m, (t, g), f))
      clear hb3 ow3' hy hyc c0 c1 c2 c3 hel
      go_wp2
      go_roundw
      case rel => exact ⟨k + 1, ys.set k (m, (t, g), f), by omega, by go_num, hid (by rw [List.length_set]; exact hyl.out), hst, hid (fun j hj => by
          by_cases e : j = k
          · subst e
            rw [List.getElem?_set_self hkl]; exact hx.out.symm
          · rw [List.getElem?_set_ne (fun h => e h.symm)]; exact hall.out j (by omega)), hid ((((B3.out.setCell (Nat.le_refl _) _).setCell (Nat.le_refl _) _).setCell (Nat.le_refl _) _).setCell (Nat.le_refl _) _)⟩
      case measure => simp [intOf]; omega
    · have e : ys = zs := by
        apply List.ext_getElem?
        intro i
        by_cases hi : i < n
        · exact hall.out i (by omega)
        · rw [List.getElem?_eq_none (by rw [hyl.out]; omega), List.getElem?_eq_none (by rw [hlen.out]; omega)]
      have hfin := hid (e ▸ hown.out)
      clear e
      go_wp2
      go_ret
      exact ⟨rfl, hfin.out, hbel.out⟩

set_option maxHeartbeats 1000000 in
theorem eqEntry_same (m t g : Int) (f : Bool) (w : World) :
    Calls Try.prog 36 #[enV m t g f, enV m t g f] w fun e w' => e = .returned (.bool true) ∧ Below w.heap.size w w' := by
  have C0 := hid ((Cs.new w 40 #[.int .i64 m, .int .i64 t, .int .i64 g, .bool f]).alloc (.cells #[.int .i64 m, .int .i64 t, .int .i64 g, .bool f] 40))
  have C1 := hid (Cs.new (w.alloc (.cells #[.int .i64 m, .int .i64 t, .int .i64 g, .bool f] 40)) 40 #[.int .i64 m, .int .i64 t, .int .i64 g, .bool f])
  have B := hid (below2 w (.cells #[.int .i64 m, .int .i64 t, .int .i64 g, .bool f] 40) (.cells #[.int .i64 m, .int .i64 t, .int .i64 g, .bool f] 40))
  have hff : (f != f) = false := by cases f <;> rfl
  go_enter Try.func36, Try.ntmps36
  go_wp2_with fail
  refine (eqStamp_same _ _ _).mono ?_
  rintro e w1 ⟨rfl, hb1⟩
  have hB1 := hid (B.out.trans (hb1.mono (by simp; omega)))
  obtain ⟨c0, c1, c2, c3⟩ := (C0.out.step hb1).four
  have D1 : Cs w1 (w.heap.size + 1) 40 #[.int .i64 m, .int .i64 t, .int .i64 g, .bool f] := by simpa using C1.out.step hb1
  obtain ⟨d0, d1, d2, d3⟩ := D1.four
  clear hb1 C0 C1 B D1
  go_wp2
  go_ret
  exact ⟨rfl, hB1.out⟩

set_option maxHeartbeats 4000000 in
theorem eqEntryS_same {n c c' : Nat} {A A' : Option Addr} {zs : List En} (w : World) (h : RdE w w.heap.size A n zs) (k : RdE w w.heap.size A' n zs) (hn : n < 1099511627776) :
    Calls Try.prog 30 #[.slice A n c, .slice A' n c'] w fun e w' => e = .returned (.bool true) ∧ Below w.heap.size w w' := by
  have h' := hid h
  have k' := hid k
  clear h k
  go_enter Try.func30, Try.ntmps30
  go_wp2
  go_loopw [5] (fun i wr => ∃ j : Nat, j ≤ n ∧ i = .int .i64 j ∧ Hid (Below w.heap.size w wr)) (fun i _ => n - (intOf i).toNat)
  case atStart => exact ⟨0, by omega, rfl, hid (Below.refl _ _)⟩
  case round =>
    obtain ⟨j, hj, rfl, hB⟩ := hrel
    have hsz := hB.out.size
    by_cases hlt : j < n
    · obtain ⟨b, off, m, t, g, f, rfl, hx, hb, d0, d1, d2, d3⟩ := (h'.out.below hB.out).at_ hlt
      obtain ⟨b2, off2, m2, t2, g2, f2, rfl, hx2, hb2, f0, f1, f2', f3⟩ := (k'.out.below hB.out).at_ hlt
      have e := hx.out.symm.trans hx2.out
      injection e with e
      injection e with e1 e2
      injection e2 with e3 e4
      injection e3 with e5 e6
      subst e1; subst e4; subst e5; subst e6
      have i0 : (0 : Int) ≤ (j : Int) := by omega
      have i1 : (j : Int) < (n : Int) := by omega
      have C0 : ∀ x : BW wr, x.wd.cell? ⟨b, off + j * 4, none⟩ = some (.int .i64 m) := fun x => x.cell d0
      have C1 : ∀ x : BW wr, x.wd.cell? ⟨b, off + j * 4 + 1, none⟩ = some (.int .i64 t) := fun x => x.cell d1
      have C2 : ∀ x : BW wr, x.wd.cell? ⟨b, off + j * 4 + 2, none⟩ = some (.int .i64 g) := fun x => x.cell d2
      have C3 : ∀ x : BW wr, x.wd.cell? ⟨b, off + j * 4 + 3, none⟩ = some (.bool f) := fun x => x.cell d3
      have D0 : ∀ x : BW wr, x.wd.cell? ⟨b2, off2 + j * 4, none⟩ = some (.int .i64 m) := fun x => x.cell f0
      have D1 : ∀ x : BW wr, x.wd.cell? ⟨b2, off2 + j * 4 + 1, none⟩ = some (.int .i64 t) := fun x => x.cell f1
      have D2 : ∀ x : BW wr, x.wd.cell? ⟨b2, off2 + j * 4 + 2, none⟩ = some (.int .i64 g) := fun x => x.cell f2'
      have D3 : ∀ x : BW wr, x.wd.cell? ⟨b2, off2 + j * 4 + 3, none⟩ = some (.bool f) := fun x => x.cell f3
      clear d0 d1 d2 d3 f0 f1 f2' f3 hx hx2
      go_wp2_with fail
      refine wp_region_below (by kernel_rfl) (by kernel_rfl) ?_
      repeat (go_big_quiet_step ((go_at_call 36; exact BW.call _ (eqEntry_same _ _ _ _ _))))
      refine wpQuiet_nil ?_
      intro w1 hb1
      have B5 := hid (hB.out.trans (hb1.mono hsz))
      clear hb1
      go_wp2
      go_roundw
      case rel => exact ⟨j + 1, by omega, by go_num, B5⟩
      case measure => simp [intOf]; omega
    · go_wp2
      go_ret
      exact ⟨rfl, hB.out⟩

set_option maxHeartbeats 1000000 in
theorem eqGroup_same {n1 c1 n2 c2 d1 d2 : Nat} {A1 A2 B1 B2 : Option Addr} {P D : List En} (i k : Int) (w : World) (h1 : RdE w w.heap.size A1 n1 P) (h2 : RdE w w.heap.size A2 n2 D) (h3 : RdE w w.heap.size B1 n1 P) (h4 : RdE w w.heap.size B2 n2 D) (hn1 : n1 < 1099511627776) (hn2 : n2 < 1099511627776) :
    Calls Try.prog 16 #[gpV i k (.slice A1 n1 c1) (.slice A2 n2 c2), gpV i k (.slice B1 n1 d1) (.slice B2 n2 d2)] w fun e w' => e = .returned (.bool true) ∧ Below w.heap.size w w' := by
  have C0 := hid ((Cs.new w 36 #[.int .i64 i, .int .i64 k, .slice A1 n1 c1, .slice A2 n2 c2]).alloc (.cells #[.int .i64 i, .int .i64 k, .slice B1 n1 d1, .slice B2 n2 d2] 36))
  have C1 := hid (Cs.new (w.alloc (.cells #[.int .i64 i, .int .i64 k, .slice A1 n1 c1, .slice A2 n2 c2] 36)) 36 #[.int .i64 i, .int .i64 k, .slice B1 n1 d1, .slice B2 n2 d2])
  have B := hid (below2 w (.cells #[.int .i64 i, .int .i64 k, .slice A1 n1 c1, .slice A2 n2 c2] 36) (.cells #[.int .i64 i, .int .i64 k, .slice B1 n1 d1, .slice B2 n2 d2] 36))
  have r1 := hid ((h1.below B.out).more B.out.size)
  have r2 := hid ((h2.below B.out).more B.out.size)
  have r3 := hid ((h3.below B.out).more B.out.size)
  have r4 := hid ((h4.below B.out).more B.out.size)
  clear h1 h2 h3 h4
  go_enter Try.func16, Try.ntmps16
  go_wp2_with fail
  refine (eqEntryS_same _ r1.out r3.out hn1).mono ?_
  rintro e w1 ⟨rfl, hb1⟩
  have hB1 := hid (B.out.trans (hb1.mono (by simp; omega)))
  obtain ⟨c0', c1', c2', c3'⟩ := (C0.out.step hb1).four
  have D1 : Cs w1 (w.heap.size + 1) 36 #[.int .i64 i, .int .i64 k, .slice B1 n1 d1, .slice B2 n2 d2] := by simpa using C1.out.step hb1
  obtain ⟨d0', d1', d2', d3'⟩ := D1.four
  have s2 := hid ((r2.out.below hb1).more hb1.size)
  have s4 := hid ((r4.out.below hb1).more hb1.size)
  clear hb1 C0 C1 B D1 r1 r2 r3 r4
  go_wp2_with fail
  refine (eqEntryS_same _ s2.out s4.out hn2).mono ?_
  rintro e w2 ⟨rfl, hb2⟩
  have hB2 := hid (hB1.out.trans (hb2.mono hB1.out.size))
  clear hb2 hB1 c0' c1' c2' c3' d0' d1' d2' d3'
  go_wp2
  go_ret
  exact ⟨rfl, hB2.out⟩

end Go.Proofs.Ytbgkinaoelicnaa

namespace Go.Proofs.Ytbgkinaoelicnaa
open Go.RowKit
set_option linter.unusedVariables false
set_option linter.unusedSimpArgs false

/-- the i-th marked entry -/
def markE (k : Int) : En := (k, (k + 1, k + 1 + 1), (k + 1 + 1 + 1) % 3 == 0)

def marksE (k : Int) (n : Nat) : List En := (List.range n).map fun (i : Nat) => markE (k + 4 * (i : Int))

theorem marksE_len (k : Int) (n : Nat) : (marksE k n).length = n := by simp [marksE]

theorem marksE_get {k : Int} {n i : Nat} (h : i < n) : (marksE k n)[i]? = some (markE (k + 4 * (i : Int))) := by simp [marksE, h]

end Go.Proofs.Ytbgkinaoelicnaa

namespace Go.Proofs.Ytbgkinaoelicnaa
open Go.RowKit
set_option linter.unusedVariables false
set_option linter.unusedSimpArgs false

theorem toEntryS_ex {n c : Nat} {A : Option Addr} {zs : List En} (w : World) (h : RdX w A n zs) (hn : n < 1099511627776) :
    Calls Try.prog 22 #[.slice A n c] w fun e w' => ∃ g, e = .returned (.slice (some ⟨g, 0, none⟩) n n) ∧ w.heap.size ≤ g ∧ g < w'.heap.size ∧ OwE w' w.heap.size (.slice (some ⟨g, 0, none⟩) n n) zs ∧ Below w.heap.size w w' :=
  (toEntryS_any w h hn).mono fun e w' ⟨h1, h2, h3⟩ => ⟨_, h1, Nat.le_refl _, (h2.lt _ rfl).2, h2, h3⟩

set_option maxHeartbeats 2000000 in
theorem toGroup_any {n1 c1 n2 c2 : Nat} {A1 A2 : Option Addr} {P D : List En} (i k : Int) (w : World) (h1 : RdX w A1 n1 P) (h2 : RdX w A2 n2 D) (hn1 : n1 < 1099511627776) (hn2 : n2 < 1099511627776) :
    Calls Try.prog 13 #[gpV i k (.slice A1 n1 c1) (.slice A2 n2 c2)] w fun e w' => ∃ B1 B2, e = .returned (gpV i k (.slice B1 n1 n1) (.slice B2 n2 n2)) ∧ OwG w' w.heap.size B1 n1 n1 B2 n2 n2 P D ∧ Below w.heap.size w w' := by
  have B := hid (below3 w (.cells #[.int .i64 i, .int .i64 k, .slice A1 n1 c1, .slice A2 n2 c2] 32) (.cells #[.int .i64 0, .int .i64 0, .slice none 0 0, .slice none 0 0] 36) (.cells #[.int .i64 i, .int .i64 k, .slice none 0 0, .slice none 0 0] 36))
  have C0 := hid (((Cs.new w 32 #[.int .i64 i, .int .i64 k, .slice A1 n1 c1, .slice A2 n2 c2]).alloc (.cells #[.int .i64 0, .int .i64 0, .slice none 0 0, .slice none 0 0] 36)).alloc (.cells #[.int .i64 i, .int .i64 k, .slice none 0 0, .slice none 0 0] 36))
  have C1 := hid ((Cs.new (w.alloc (.cells #[.int .i64 i, .int .i64 k, .slice A1 n1 c1, .slice A2 n2 c2] 32)) 36 #[.int .i64 0, .int .i64 0, .slice none 0 0, .slice none 0 0]).alloc (.cells #[.int .i64 i, .int .i64 k, .slice none 0 0, .slice none 0 0] 36))
  have C2 := hid (Cs.new ((w.alloc (.cells #[.int .i64 i, .int .i64 k, .slice A1 n1 c1, .slice A2 n2 c2] 32)).alloc (.cells #[.int .i64 0, .int .i64 0, .slice none 0 0, .slice none 0 0] 36)) 36 #[.int .i64 i, .int .i64 k, .slice none 0 0, .slice none 0 0])
  have X1 := hid (h1.below B.out)
  have h2' := hid h2
  obtain ⟨w0, hw0⟩ : ∃ W, ((w.alloc (.cells #[.int .i64 i, .int .i64 k, .slice A1 n1 c1, .slice A2 n2 c2] 32)).alloc (.cells #[.int .i64 0, .int .i64 0, .slice none 0 0, .slice none 0 0] 36)).alloc (.cells #[.int .i64 i, .int .i64 k, .slice none 0 0, .slice none 0 0] 36) = W := ⟨_, rfl⟩
  have hz0 : w.heap.size + 1 + 1 + 1 = w0.heap.size := by rw [← hw0]; simp
  simp only [World.size_alloc] at C0 C1 C2
  rw [hw0] at B C0 C1 C2 X1
  have hlP := hid h1.1
  have hlD := hid h2.1
  have hw0' := hid hw0
  clear hw0 h1 h2
  go_enter Try.func13, Try.ntmps13
  go_upto_region 4 with (fail)
  rw [hw0'.out]
  obtain ⟨a0, a1, a2, a3⟩ := C0.out.four
  go_wp2_with fail
  refine (toEntryS_ex _ X1.out hn1).mono ?_
  rintro e w1 ⟨g1, rfl, hg1, hg1', o1, hb1⟩
  have hz1 := hb1.size
  have D0 := hid (C0.out.step hb1)
  have D1 := hid (C1.out.step hb1)
  have D2 := hid (C2.out.step hb1)
  have O1 := hid (o1.more (show w.heap.size ≤ w0.heap.size by omega))
  have B1 := hid (B.out.trans (hb1.mono (by omega)))
  obtain ⟨x0, x1, x2, x3⟩ := D2.out.four
  obtain ⟨y0, y1, y2, y3⟩ := D2.out.free4
  clear hb1 C0 C1 C2 B X1 a0 a1 a2 a3 o1
  go_upto_region 5 with (fail)
  obtain ⟨W1, hW1⟩ : ∃ W, w1.setCell ⟨w.heap.size + 1 + 1, 2, none⟩ (.slice (some ⟨g1, 0, none⟩) n1 n1) = W := ⟨_, rfl⟩
  have hzW : W1.heap.size = w1.heap.size := by rw [← hW1]; simp [World.setCell]
  have hbW : Below w.heap.size w W1 := by rw [← hW1]; exact B1.out.setCell (by simp; omega) _
  have E0 : Cs W1 w.heap.size 32 #[.int .i64 i, .int .i64 k, .slice A1 n1 c1, .slice A2 n2 c2] := by rw [← hW1]; exact D0.out.far (by simp; omega) _
  have E1 : Cs W1 (w.heap.size + 1) 36 #[.int .i64 0, .int .i64 0, .slice none 0 0, .slice none 0 0] := by rw [← hW1]; exact D1.out.far (by simp) _
  have E2 : Cs W1 (w.heap.size + 1 + 1) 36 #[.int .i64 i, .int .i64 k, .slice (some ⟨g1, 0, none⟩) n1 n1, .slice none 0 0] := by rw [← hW1]; exact D2.out.set 2 _
  have P1 : OwE W1 w.heap.size (.slice (some ⟨g1, 0, none⟩) n1 n1) P := by rw [← hW1]; exact O1.out.setFar (fun h => by injection h with h; simp at h; omega) _
  have Z2 : RdX W1 A2 n2 D := h2'.out.below hbW
  rw [hW1]
  replace hbW := hid hbW
  replace P1 := hid P1
  replace Z2 := hid Z2
  obtain ⟨a0, a1, a2, a3⟩ := E0.four
  replace E0 := hid E0
  replace E1 := hid E1
  replace E2 := hid E2
  clear hW1 D0 D1 D2 O1 B1 x0 x1 x2 x3 y0 y1 y2 y3
  go_wp2_with fail
  refine (toEntryS_ex _ Z2.out hn2).mono ?_
  rintro e w2 ⟨g2, rfl, hg2, hg2', o2, hb2⟩
  have hz2 := hb2.size
  have F1 := hid (E1.out.step hb2)
  have F2 := hid (E2.out.step hb2)
  have Q1 := hid (P1.out.below hb2)
  have Q2 := hid (o2.more (show w.heap.size ≤ W1.heap.size by omega))
  have B2 := hid (hbW.out.trans (hb2.mono (by omega)))
  obtain ⟨x0, x1, x2, x3⟩ := F2.out.four
  obtain ⟨y0, y1, y2, y3⟩ := F2.out.free4
  clear hb2 E0 E1 E2 a0 a1 a2 a3 o2 P1 Z2 hbW
  go_upto_region 6 with (fail)
  obtain ⟨W2, hW2⟩ : ∃ W, w2.setCell ⟨w.heap.size + 1 + 1, 3, none⟩ (.slice (some ⟨g2, 0, none⟩) n2 n2) = W := ⟨_, rfl⟩
  have hbX : Below w.heap.size w W2 := by rw [← hW2]; exact B2.out.setCell (by simp; omega) _
  have G1 : Cs W2 (w.heap.size + 1) 36 #[.int .i64 0, .int .i64 0, .slice none 0 0, .slice none 0 0] := by rw [← hW2]; exact F1.out.far (by simp) _
  have G2 : Cs W2 (w.heap.size + 1 + 1) 36 #[.int .i64 i, .int .i64 k, .slice (some ⟨g1, 0, none⟩) n1 n1, .slice (some ⟨g2, 0, none⟩) n2 n2] := by rw [← hW2]; exact F2.out.set 3 _
  have R1 : OwE W2 w.heap.size (.slice (some ⟨g1, 0, none⟩) n1 n1) P := by rw [← hW2]; exact Q1.out.setFar (fun h => by injection h with h; simp at h; omega) _
  have R2 : OwE W2 w.heap.size (.slice (some ⟨g2, 0, none⟩) n2 n2) D := by rw [← hW2]; exact Q2.out.setFar (fun h => by injection h with h; simp at h; omega) _
  rw [hW2]
  obtain ⟨x0, x1, x2, x3⟩ := G2.four
  obtain ⟨z0, z1, z2, z3⟩ := G1.four
  obtain ⟨y0, y1, y2, y3⟩ := G1.free4
  have HF := hid (show OwG ((((W2.setCell ⟨w.heap.size + 1, 0, none⟩ (.int .i64 i)).setCell ⟨w.heap.size + 1, 1, none⟩ (.int .i64 k)).setCell ⟨w.heap.size + 1, 2, none⟩ (.slice (some ⟨g1, 0, none⟩) n1 n1)).setCell ⟨w.heap.size + 1, 3, none⟩ (.slice (some ⟨g2, 0, none⟩) n2 n2)) w.heap.size (some ⟨g1, 0, none⟩) n1 n1 (some ⟨g2, 0, none⟩) n2 n2 P D from by
    have f1 : ∀ j, (Value.slice (some ⟨g1, 0, none⟩) n1 n1).ownBlock ≠ some (⟨w.heap.size + 1, j, none⟩ : Addr).block := fun j h => by injection h with h; simp at h; omega
    have f2 : ∀ j, (Value.slice (some ⟨g2, 0, none⟩) n2 n2).ownBlock ≠ some (⟨w.heap.size + 1, j, none⟩ : Addr).block := fun j h => by injection h with h; simp at h; omega
    exact ⟨(((R1.setFar (f1 0) _).setFar (f1 1) _).setFar (f1 2) _).setFar (f1 3) _, (((R2.setFar (f2 0) _).setFar (f2 1) _).setFar (f2 2) _).setFar (f2 3) _, hlP.out, hlD.out, fun b h1 h2 => by
      injection h1 with h1
      injection h2 with h2
      simp only at h1 h2
      omega⟩)
  have HB := hid (show Below w.heap.size w ((((W2.setCell ⟨w.heap.size + 1, 0, none⟩ (.int .i64 i)).setCell ⟨w.heap.size + 1, 1, none⟩ (.int .i64 k)).setCell ⟨w.heap.size + 1, 2, none⟩ (.slice (some ⟨g1, 0, none⟩) n1 n1)).setCell ⟨w.heap.size + 1, 3, none⟩ (.slice (some ⟨g2, 0, none⟩) n2 n2)) from (((hbX.setCell (by simp) _).setCell (by simp) _).setCell (by simp) _).setCell (by simp) _)
  have Y := hid ((((G1.set 0 (.int .i64 i)).set 1 (.int .i64 k)).set 2 (.slice (some ⟨g1, 0, none⟩) n1 n1)).set 3 (.slice (some ⟨g2, 0, none⟩) n2 n2) : Cs _ _ _ #[.int .i64 i, .int .i64 k, .slice (some ⟨g1, 0, none⟩) n1 n1, .slice (some ⟨g2, 0, none⟩) n2 n2]).four
  clear hW2 F1 F2 Q1 Q2 B2 R1 R2 hbX G1 G2
  go_wp2
  exact bodyPost_ret (v := gpV i k (.slice (some ⟨g1, 0, none⟩) n1 n1) (.slice (some ⟨g2, 0, none⟩) n2 n2)) (by simp [results, Try.results13, go_sem, Y.out.1, Y.out.2.1, Y.out.2.2.1, Y.out.2.2.2]) rfl ⟨_, _, rfl, HF.out, HB.out⟩
end Go.Proofs.Ytbgkinaoelicnaa
