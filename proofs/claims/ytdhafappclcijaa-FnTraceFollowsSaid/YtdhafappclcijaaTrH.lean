/-
  Contracts of the model's l21Path and TraceCycle: a breadth-first search. No condition but lengths below 2^40.
-/
import Derived.Test.YtdhafappclcijaaTrD
import Derived.Test.YtdhafappclcijaaRmHi
import Derived.Deep.DeepCutAuto
namespace Go.Proofs.Ytdhafappclcijaa
open Go.RowKit
set_option linter.unusedVariables false
set_option linter.unusedSimpArgs false

theorem OwI.cellT {w : World} {lo b n cap : Nat} {zs : List Int} (h : OwI w lo (.slice (some ⟨b, 0, none⟩) n cap) zs) (hn : zs.length = n) {j : Nat} {z : Int} (hz : zs[j]? = some z) :
    w.cell? ⟨b, j, none⟩ = some (.int .i64 z) ∧ w.frozen? ⟨b, j, none⟩ = false := by
  have ho : w.ownsRow lo 3 1 (.slice (some ⟨b, 0, none⟩) n cap) n (ints zs) := by
    rw [OwI, hn] at h; exact h
  have hj := (List.getElem?_eq_some_iff.1 hz).1
  refine ⟨?_, ho.frozenAt j⟩
  rw [ho.cellAt j (by omega)]
  simp [hz]

theorem OwI.putT {w : World} {lo b n cap : Nat} {zs : List Int} (h : OwI w lo (.slice (some ⟨b, 0, none⟩) n cap) zs) (hn : zs.length = n) (j : Nat) (q : Int) : OwI (w.setCell ⟨b, j, none⟩ (.int .i64 q)) lo (.slice (some ⟨b, 0, none⟩) n cap) (zs.set j q) := by
  have ho : w.ownsRow lo 3 1 (.slice (some ⟨b, 0, none⟩) n cap) n (ints zs) := by
    rw [OwI, hn] at h; exact h
  rw [OwI, List.length_set, hn, ints, List.map_set]
  exact (ho.stored j _).1

theorem OwI.farT {w : World} {lo : Nat} {v : Value} {zs : List Int} (h : OwI w lo v zs) {p : Addr} (hp : p.block < lo) (u : Value) : OwI (w.setCell p u) lo v zs :=
  own_of_block h fun g hg => Below.heap_setCell w p u g (fun e => by have := (h.lt g hg).1; omega)

theorem toList_madeT (m : Nat) : (madeCells #[.int .i64 0] (m * 1)).toList = ints (List.replicate m 0) := by
  apply List.ext_getElem?
  intro i
  by_cases hi : i < m
  · simp [madeCells, hi, ints, Nat.mod_one]
  · rw [List.getElem?_eq_none (by simp [madeCells]; omega), List.getElem?_eq_none (by simp [ints]; omega)]

theorem fst_get {L : List Be} {i : Nat} {x p : Int} {d : Nat} (h : L[i]? = some (x, p, d)) : (L.map fun e => e.1)[i]? = some x := by rw [List.getElem?_map, h]; rfl

set_option maxRecDepth 100000 in
set_option maxHeartbeats 8000000 in
theorem l21Path_any {n c : Nat} {A : Option Addr} {zss : List (List Int)} (f : Int) (w : World) (hr : RdT w w.heap.size A n zss) (hn : n < 1099511627776) (hs : ShT zss) (hv : ∀ t ∈ zss, trB t = true) (hf0 : 0 ≤ f) (hf1 : f ≤ 11) :
    Calls Try.prog 41 #[.slice A n c, .int .i64 f] w (NewI w (pathB (nxT zss) f)) := by
  obtain ⟨i0, hi, hz0, hz1, hz2⟩ := info_parts info_int
  have hrng := hid (nxT_rng hv)
  have hr' := hid hr
  have hs' := hid hs
  clear hr hs hv
  go_enter Try.func41, Try.ntmps41
  go_wp2_with (refine wpList_make_full (P := Try.prog) _ rfl _ _ 25 rfl w.heap.size 3 i0 (.int .i64 0) 1 Try.underlying25 hi hz0 hz1 .i64 .i64 _ _ 12 rfl rfl rfl rfl (by rw [hz2]; omega) (by unfold maxLen; omega) (Nat.le_refl _) ?_; intro w1 hown hgr)
  have hb1 := hid ((Below.refl w.heap.size w).grown hgr (Nat.le_refl _) (fun k h => by cases h))
  have ho1 : OwI w1 w.heap.size (.slice (some ⟨w.heap.size, 0, none⟩) 12 12) (List.replicate 12 0) := by
    rw [OwI, List.length_replicate, ← toList_madeT]; exact hown
  have ho1' := hid ho1
  clear ho1 hown hgr hi hz0 hz1 hz2
  go_loopw [6] (fun i wr => ∃ (k : Nat) (ys : List Int), k ≤ 12 ∧ i = .int .i64 k ∧ Hid (ys.length = 12) ∧ Hid (OwI wr w.heap.size (.slice (some ⟨w.heap.size, 0, none⟩) 12 12) ys) ∧ Hid (∀ j : Nat, j < k → ys[j]? = some (-1)) ∧ Hid (Below w.heap.size w wr)) (fun i _ => 12 - (intOf i).toNat)
  case atStart => exact ⟨0, _, by omega, rfl, hid List.length_replicate, ho1', hid (fun j h => by omega), hb1⟩
  case round =>
    clear ho1' hb1
    obtain ⟨k, ys, hk, rfl, hyl, hown, hall, hB⟩ := hrel
    have hsz := hB.out.size
    by_cases hlt : k < 12
    · have hkl : k < ys.length := by rw [hyl.out]; exact hlt
      obtain ⟨y, hy⟩ : ∃ y, ys[k]? = some y := ⟨_, List.getElem?_eq_getElem hkl⟩
      obtain ⟨c0, f0⟩ := hown.out.cellT hyl.out hy
      have i0 : (0 : Int) ≤ (k : Int) := by omega
      have i1 : (k : Int) < ((12 : Nat) : Int) := by omega
      have i2 : (k : Int) < 12 := by omega
      have hst := hid (hown.out.putT hyl.out k (-1))
      clear hy
      go_wp2
      go_roundw
      case rel => exact ⟨k + 1, ys.set k (-1), by omega, by go_num, hid (by rw [List.length_set]; exact hyl.out), hst, hid (fun j hj => by
          by_cases e : j = k
          · subst e; exact List.getElem?_set_self hkl
          · rw [List.getElem?_set_ne (fun h => e h.symm)]; exact hall.out j (by omega)), hid (hB.out.setCell (Nat.le_refl _) _)⟩
      case measure => simp [intOf]; omega
    · have e : ys = bfOf [(f, -1, 0)] := by
        rw [bfOf_start]
        apply List.ext_getElem?
        intro i
        by_cases hi : i < 12
        · rw [hall.out i (by omega), List.getElem?_replicate, if_pos hi]
        · rw [List.getElem?_eq_none (by rw [hyl.out]; omega), List.getElem?_eq_none (by simp; omega)]
      have hb := hid (e ▸ hown.out)
      have hk12 : ¬ ((k : Int) < ((12 : Nat) : Int)) := by omega
      have hk13 : ¬ ((k : Int) < 12) := by omega
      have hwz : w.heap.size + 1 ≤ wr.heap.size := by have h9 : w.heap.size < wr.heap.size := (hown.out.lt w.heap.size rfl).2; omega
      obtain ⟨w2, hw2⟩ : ∃ W, wr.alloc (.cells #[.int .i64 f] 3) = W := ⟨_, rfl⟩
      have hbel2 : Below wr.heap.size wr w2 := by rw [← hw2]; exact (Below.refl wr.heap.size wr).alloc (Nat.le_refl _) _
      have B2 := hid (hB.out.trans (hbel2.mono hsz))
      have b2 := hid (hb.out.below hbel2)
      have l2 := hid (show OwI w2 (w.heap.size + 1) (.slice (some ⟨wr.heap.size, 0, none⟩) 1 1) ([((f, -1, 0) : Be)].map fun e => e.1) by
        rw [← hw2]
        exact World.ownsRow_lit wr #[.int .i64 f] 1 hwz (by decide) rfl)
      replace hw2 := hid hw2
      clear e hall hown hb hB hyl hbel2
      go_upto_region 7 with (fail)
      rw [hw2.out]
      clear hw2
      go_wp2_with fail
      go_loopw [7, 8] (fun v iv wr => ∃ (i : Nat) (L : List Be), iv = .int .i64 i ∧ i ≤ 12 ∧ Hid (OwI wr (w.heap.size + 1) v (L.map fun e => e.1)) ∧ Hid (OwI wr w.heap.size (.slice (some ⟨w.heap.size, 0, none⟩) 12 12) (bfOf L)) ∧ Hid (InvB (nxT zss) f i L) ∧ Hid (PB f L) ∧ Hid (bfsB (nxT zss) f (13 - i) i L = pathB (nxT zss) f) ∧ Hid (Below w.heap.size w wr)) (fun _ iv _ => 13 - (intOf iv).toNat)
      case atStart => exact ⟨0, [(f, -1, 0)], rfl, by omega, l2, b2, hid (InvB.start _ _), hid (PB.start ⟨hf0, hf1⟩), hid rfl, B2⟩
      case round =>
        clear l2 b2 B2 hwz hsz hk12 hk13 hlt hk
        obtain ⟨i, L, rfl, hi12, hl, hbf, hI, hP, hrest, hB⟩ := hrel
        have hL12 := hI.out.len hrng.out ⟨hf0, hf1⟩
        have hsz := hB.out.size
        have hwz : w.heap.size + 1 ≤ wr.heap.size := by have h9 : w.heap.size < wr.heap.size := (hbf.out.lt w.heap.size rfl).2; omega
        obtain ⟨nl, hnl⟩ : ∃ nl, L.length = nl := ⟨_, rfl⟩
        rw [hnl] at hL12
        obtain ⟨Al, cl, rfl, hrl⟩ := hl.out.form
        rw [List.length_map, hnl] at hrl ⊢
        have hl9 := hid (show OwI wr (w.heap.size + 1) (.slice Al nl cl) (L.map fun e => e.1) by
          have := hl.out
          rw [List.length_map, hnl] at this; exact this)
        clear hl hrl
        by_cases hlt : i < nl
        · obtain ⟨⟨x, p, d⟩, hLi⟩ : ∃ e, L[i]? = some e := ⟨_, List.getElem?_eq_getElem (by omega)⟩
          have hLi' := hid hLi
          have hxr := hP.out.rng _ (List.mem_of_getElem? hLi)
          simp only at hxr
          have i1 : (i : Int) < (nl : Int) := by omega
          have hnl' := hid hnl
          clear hLi hnl
          go_wp2
          go_loopw [7, 9] (fun v mv wx => ∃ m : Nat, m ≤ 12 ∧ mv = .int .i64 m ∧ Hid (OwI wx (w.heap.size + 1) v ((rowTo (nxT zss) x d m L).map fun e => e.1)) ∧ Hid (OwI wx w.heap.size (.slice (some ⟨w.heap.size, 0, none⟩) 12 12) (bfOf (rowTo (nxT zss) x d m L))) ∧
            Hid (PB f (rowTo (nxT zss) x d m L)) ∧ Hid (∃ N, rowTo (nxT zss) x d m L = L ++ N) ∧ Hid (nxT zss x f = true → (m : Int) ≤ f) ∧ Hid (Below w.heap.size w wx)) (fun _ mv _ => 12 - (intOf mv).toNat)
          case atStart => exact ⟨0, by omega, rfl, hl9, hbf, hP, hid ⟨[], by simp [rowTo]⟩, hid (fun _ => hf0), hB⟩
          case round =>
            clear hl9 hbf hB hsz hwz
            obtain ⟨m, hm, rfl, hl, hbf, hPm, hN, hle, hB⟩ := hrel
            have hsz := hB.out.size
            have hwz : w.heap.size + 1 ≤ wr.heap.size := by have h9 : w.heap.size < wr.heap.size := (hbf.out.lt w.heap.size rfl).2; omega
            have hrs := hid (rowTo_succ (nxT zss) x d m L)
            by_cases hmlt : m < 12
            · have m0 : (0 : Int) ≤ (m : Int) := by omega
              have m1 : (m : Int) < 12 := by omega
              have m2 : (m : Int) < ((12 : Nat) : Int) := by omega
              have m3 : (m : Int) ≤ 11 := by omega
              obtain ⟨Lm, hLm⟩ : ∃ Lm, rowTo (nxT zss) x d m L = Lm := ⟨_, rfl⟩
              rw [hLm] at hl hbf hPm hN hrs
              obtain ⟨nm, hnm⟩ : ∃ nm, Lm.length = nm := ⟨_, rfl⟩
              have hLmi : Lm[i]? = some (x, p, d) := by
                obtain ⟨N, e⟩ := hN.out
                rw [e, List.getElem?_append_left (by rw [hnl'.out]; exact hlt)]; exact hLi'.out
              have him : i < nm := by rw [← hnm]; exact (List.getElem?_eq_some_iff.1 hLmi).1
              have hnm12 : nm ≤ 12 := by
                have := nodup_len hPm.out.nd (m := msg12) (fun y hy => mem_msg12.2 (by
                  obtain ⟨e, he, rfl⟩ := List.mem_map.1 hy
                  exact hPm.out.rng e he))
                rw [List.length_map, hnm] at this
                simpa [msg12] using this
              obtain ⟨Av, cv, rfl, hrv⟩ := hl.out.form
              rw [List.length_map, hnm] at hrv
              have hl8 := hid (show OwI wr (w.heap.size + 1) (.slice Av nm cv) (Lm.map fun e => e.1) by
                have := hl.out
                rw [List.length_map, hnm] at this; exact this)
              obtain ⟨ad, z, rfl, hz, hcz⟩ := RdI.at' hrv him
              obtain rfl : z = x := by
                have h1 := getD_of (by rw [List.length_map, hnm]; exact him) hz.out
                rw [fst_get hLmi] at h1
                injection h1 with h1
                exact h1.symm
              rw [List.length_map, hnm]
              have j0 : (0 : Int) ≤ (i : Int) := by omega
              have j1 : (i : Int) < (nm : Int) := by omega
              have hR9 := hid ((hr'.out.below hB.out))
              have hbm := bfOf_get Lm m0 m3
              rw [Int.toNat_natCast] at hbm
              obtain ⟨cb, fb⟩ := hbf.out.cellT (bfOf_len Lm) hbm
              have hLm' := hid hLm
              have hLmi' := hid hLmi
              have hnm' := hid hnm
              clear hrv hl hLm hLmi hnm hbm hz
              cases hnx : nxT zss z (m : Int) with
              | false =>
                have hnx' := hid hnx
                have hrs2 := hid (show rowTo (nxT zss) z d (m + 1) L = Lm by rw [hrs.out]; exact visB_no (.inl hnx))
                have hle2 := hid (show nxT zss z f = true → ((m + 1 : Nat) : Int) ≤ f from fun h => by
                  have := hle.out h
                  rcases Int.lt_or_eq_of_le this with h2 | h2
                  · omega
                  · rw [← h2, hnx] at h; cases h)
                clear hnx hrs hle
                go_wp2_with fail
                refine (l21Next_as hnx'.out _ hR9.out hn hs'.out).mono ?_
                rintro e w9 ⟨rfl, rfl⟩
                go_wp2
                go_roundw
                case rel => exact ⟨m + 1, by omega, by go_num, by rw [hrs2.out]; exact hl8, by rw [hrs2.out]; exact hbf, by rw [hrs2.out]; exact hPm, by rw [hrs2.out]; exact hN, hle2, hB⟩
                case measure => simp [intOf]; omega
              | true =>
                by_cases hmf : (m : Int) = f
                · subst hmf
                  obtain ⟨T, hT⟩ : ∃ T, recB Lm d z [] = T := ⟨_, rfl⟩
                  have hpath : pathB (nxT zss) (m : Int) = (m : Int) :: T := by
                    have h1 := hrest.out
                    rw [show 13 - i = (12 - i) + 1 by omega] at h1
                    unfold bfsB at h1
                    rw [hLi'.out] at h1
                    simp only [hnx, if_true] at h1
                    obtain ⟨N, e⟩ := hN.out
                    have h2 := recB_pre hP.out (N := N) (by rw [← e]; exact hPm.out.nd) d i z p [] hLi'.out
                    rw [← e, hT] at h2
                    rw [← h1, ← h2]
                  have hTl : T.length ≤ 11 := by
                    rcases pathB_way hrng.out ⟨hf0, hf1⟩ with ⟨h1, _⟩ | ⟨_, h2, _, h4, _⟩
                    · rw [hpath] at h1; cases h1
                    · rw [hpath] at h2 h4
                      have := nodup_len h2 (m := msg12) (fun y hy => mem_msg12.2 (h4 y hy))
                      simpa [msg12] using this
                  have hTd : d = T.length := by rw [← hT, recB_len]; simp
                  have hd11 : d ≤ 11 := by omega
                  have hpath' := hid hpath
                  have hT' := hid hT
                  have hnx' := hid hnx
                  obtain ⟨w0, hw0⟩ : ∃ W, wr.alloc (.cells #[] 3) = W := ⟨_, rfl⟩
                  have hb0 : Below wr.heap.size wr w0 := by rw [← hw0]; exact (Below.refl wr.heap.size wr).alloc (Nat.le_refl _) _
                  have o0 := hid (show OwI w0 (w.heap.size + 1) (.slice (some ⟨wr.heap.size, 0, none⟩) 0 0) [] by rw [← hw0]; exact OwI.empty_lit wr hwz)
                  have hcz0 : w0.cell? (ad.add i) = some (.int .i64 z) := (hb0.cell (World.block_lt_of_cell? wr _ hcz)).trans hcz
                  have bf0 := hid (hbf.out.below hb0)
                  have B0 := hid (hB.out.trans (hb0.mono hsz))
                  replace hw0 := hid hw0
                  clear hpath hT hTl hTd hnx hrs hb0 cb fb hle hrest hI hP hN hl8 hLi' hbf
                  go_wp2_with fail
                  refine (l21Next_as hnx'.out _ hR9.out hn hs'.out).mono ?_
                  rintro e w9 ⟨rfl, rfl⟩
                  go_upto_region 16 with (fail)
                  rw [hw0.out]
                  clear hw0 hcz
                  go_wp2
                  go_loopw [10, 11] (fun v xv wq => ∃ (y : Int) (k : Nat) (acc : List Int), xv = .int .i64 y ∧ Hid (OwI wq (w.heap.size + 1) v acc) ∧ Hid (∃ (j : Nat) (p : Int), Lm[j]? = some (y, p, k)) ∧ Hid (recB Lm k y acc = T) ∧ acc.length + k ≤ 11 ∧ Hid (OwI wq w.heap.size (.slice (some ⟨w.heap.size, 0, none⟩) 12 12) (bfOf Lm)) ∧ Hid (Below w.heap.size w wq)) (fun v _ _ => 12 - slLenT v)
                  case atStart => exact ⟨z, d, [], rfl, o0, hid ⟨i, p, hLmi'.out⟩, hT', by simpa using hd11, bf0, B0⟩
                  case round =>
                    clear o0 B0 hcz0 hT' bf0 hB hsz hwz hR9
                    obtain ⟨y, k9, acc, rfl, ho, hj, hrec, hak, hbf, hBq⟩ := hrel
                    have hszq := hBq.out.size
                    have hwz : w.heap.size + 1 ≤ wr.heap.size := by have h9 : w.heap.size < wr.heap.size := (hbf.out.lt w.heap.size rfl).2; omega
                    have hsl := ho.out.slLen
                    obtain ⟨Ac, cc, rfl, hra⟩ := ho.out.form
                    obtain ⟨na, hna⟩ : ∃ na, acc.length = na := ⟨_, rfl⟩
                    have hra' := hid hra
                    clear hra
                    rw [hna] at hra' hak ⊢
                    have hna' := hid hna
                    clear ho
                    by_cases hym : y = (m : Int)
                    · subst hym
                      obtain ⟨j9, p9, hj9⟩ := hj.out
                      have hk0 := (hPm.out.zero hj9).1 rfl
                      subst hk0
                      have hacc := hid (show [(m : Int)] ++ acc = pathB (nxT zss) (m : Int) from by
                        rw [hpath'.out, ← hrec.out]; rfl)
                      obtain ⟨wl, hwl⟩ : ∃ W, wr.alloc (.cells #[.int .i64 (m : Int)] 3) = W := ⟨_, rfl⟩
                      have hbl : Below wr.heap.size wr wl := by rw [← hwl]; exact (Below.refl wr.heap.size wr).alloc (Nat.le_refl _) _
                      have ol := hid (show OwI wl w.heap.size (.slice (some ⟨wr.heap.size, 0, none⟩) 1 1) [(m : Int)] by rw [← hwl]; exact World.ownsRow_lit wr #[.int .i64 (m : Int)] 1 hszq (by decide) rfl)
                      have rl := hid (Reads.below hra'.out hbl)
                      have BL := hid (hBq.out.trans (hbl.mono hszq))
                      have zl := hid (show w.heap.size ≤ wl.heap.size from Nat.le_trans hszq hbl.size)
                      have ml := hid (show [(m : Int)].length + na < 1099511627776 by simp; omega)
                      replace hwl := hid hwl
                      clear hbl hj9 hrec
                      go_wp2_with (at_builtin; rw [hwl.out]; (refine wpList_appH2 rfl (.tmp 62) (.tmp 63) rfl (B := w.heap.size) (v := .slice (some ⟨wr.heap.size, 0, none⟩) 1 1) (zs := [(m : Int)]) (ys := acc) (m := na) rfl rfl ol.out rl.out zl.out ml.out ?_); intro v5 w5 ho5 hg5 hv5)
                      go_ret
                      exact ⟨_, rfl, by rw [← hacc.out]; exact ho5, BL.out.grown hg5 zl.out (fun k hk => (ol.out.lt k hk).1)⟩
                    · have hyme : (y != (m : Int)) = true := by simp [hym]
                      obtain ⟨j9, p9, hj9⟩ := hj.out
                      have hk1 : k9 ≠ 0 := fun h => hym ((hPm.out.zero hj9).2 h)
                      obtain ⟨k8, rfl⟩ : ∃ k8, k9 = k8 + 1 := ⟨k9 - 1, by omega⟩
                      have hj0 : 0 < j9 := by
                        rcases Nat.eq_zero_or_pos j9 with h0 | h0
                        · subst h0
                          rw [hPm.out.hd] at hj9
                          injection hj9 with hj9
                          injection hj9 with hj9 _
                          exact absurd hj9.symm hym
                        · exact h0
                      obtain ⟨hpr, d8, j8, q8, e8, hj8⟩ := hPm.out.ent j9 y p9 (k8 + 1) hj9 hj0
                      obtain rfl : d8 = k8 := by omega
                      have hpar := parB_of hPm.out.nd hj9
                      have hrec2 := hid (show recB Lm d8 p9 (y :: acc) = T from by
                        have h1 := hrec.out
                        show _ = T
                        rw [← h1, ← hpar]; rfl)
                      have hyr := hPm.out.rng _ (List.mem_of_getElem? hj9)
                      simp only at hyr
                      have hbm := bfOf_get Lm hyr.1 hyr.2
                      rw [hpar] at hbm
                      have hj8' := hid (show ∃ (j : Nat) (p : Int), Lm[j]? = some (p9, p, d8) from ⟨j8, q8, hj8⟩)
                      obtain ⟨y0, y1⟩ := hyr
                      have y2 : y < ((12 : Nat) : Int) := by omega
                      obtain ⟨wl, hwl⟩ : ∃ W, wr.alloc (.cells #[.int .i64 y] 3) = W := ⟨_, rfl⟩
                      have hbl : Below wr.heap.size wr wl := by rw [← hwl]; exact (Below.refl wr.heap.size wr).alloc (Nat.le_refl _) _
                      have ol := hid (show OwI wl (w.heap.size + 1) (.slice (some ⟨wr.heap.size, 0, none⟩) 1 1) [y] by rw [← hwl]; exact World.ownsRow_lit wr #[.int .i64 y] 1 hwz (by decide) rfl)
                      have rl := hid (Reads.below hra'.out hbl)
                      have BL := hid (hBq.out.trans (hbl.mono hszq))
                      have bfl := hid (hbf.out.below hbl)
                      have zl := hid (show w.heap.size + 1 ≤ wl.heap.size from Nat.le_trans hwz hbl.size)
                      have ml := hid (show [y].length + na < 1099511627776 by simp; omega)
                      replace hwl := hid hwl
                      have hbm' := hid hbm
                      clear hbl hj9 hrec hpar hbm hj8 hpr e8 hbf hk1
                      go_upto_region 18 with (at_builtin; rw [hwl.out]; (refine wpList_appH2 rfl (.tmp 58) (.tmp 59) rfl (B := w.heap.size + 1) (v := .slice (some ⟨wr.heap.size, 0, none⟩) 1 1) (zs := [y]) (ys := acc) (m := na) rfl rfl ol.out rl.out zl.out ml.out ?_); intro v5 w5 ho5 hg5 hv5)
                      have bf5 := hid (own_of_block bfl.out fun g hg => hg5.block g (bfl.out.lt g hg).2 (fun e => by
                        have h1 := (ol.out.lt g e.symm).1
                        injection hg with hg
                        simp only at hg
                        omega))
                      have B5 := hid (BL.out.grown hg5 (by have := zl.out; omega) (fun k hk => by have := (ol.out.lt k hk).1; omega))
                      have O5 := hid ho5
                      have hs5 := ho5.slLen
                      obtain ⟨c5, f5⟩ := bf5.out.cellT (bfOf_len Lm) hbm'.out
                      clear ho5 hg5 hv5
                      go_wp2
                      go_roundw
                      case rel => exact ⟨p9, d8, [y] ++ acc, rfl, O5, hj8', hrec2, by rw [List.length_append, hna'.out]; simp; omega, bf5, B5⟩
                      case measure =>
                        have h1 : slLenT v5 = 1 + acc.length := by rw [hs5]; simp; omega
                        have h2 : slLenT (Value.slice Ac na cc) = na := rfl
                        show 12 - slLenT v5 < 12 - slLenT (Value.slice Ac na cc)
                        rw [h1, h2, hna'.out]; omega
                · have hmfe : ((m : Int) == f) = false := by rw [beq_eq_false_iff_ne]; exact hmf
                  have hle2 := hid (show nxT zss z f = true → ((m + 1 : Nat) : Int) ≤ f from fun h => by
                    have := hle.out h
                    omega)
                  by_cases hpb : parB Lm (m : Int) < 0
                  · have hnot := (hPm.out.test hmf).1 hpb
                    have hvis := visB_yes (d := d) hnx hnot
                    have hrs2 := hid (show rowTo (nxT zss) z d (m + 1) L = Lm ++ [((m : Int), z, d + 1)] by rw [hrs.out]; exact hvis)
                    have hP2 := hid (hPm.out.snoc hLmi'.out hnot m0 m3)
                    have hbs := bfOf_snoc (x := z) (d := d + 1) hnot m0 m3
                    rw [Int.toNat_natCast] at hbs
                    have hN2 := hid (show ∃ N, Lm ++ [((m : Int), z, d + 1)] = L ++ N from by
                      obtain ⟨N, e⟩ := hN.out
                      exact ⟨N ++ [((m : Int), z, d + 1)], by rw [e, List.append_assoc]⟩)
                    have hnx' := hid hnx
                    obtain ⟨pb, hpbe⟩ : ∃ pb, parB Lm (m : Int) = pb := ⟨_, rfl⟩
                    rw [hpbe] at cb hpb
                    obtain ⟨w4, hw4⟩ : ∃ W, wr.setCell ⟨w.heap.size, m, none⟩ (.int .i64 z) = W := ⟨_, rfl⟩
                    have bf4 := hid (show OwI w4 w.heap.size (.slice (some ⟨w.heap.size, 0, none⟩) 12 12) (bfOf (Lm ++ [((m : Int), z, d + 1)])) by
                      rw [← hw4, hbs]; exact hbf.out.putT (bfOf_len Lm) m z)
                    have l4 := hid (show OwI w4 (w.heap.size + 1) (.slice (some ad) nm cv) (Lm.map fun e => e.1) by
                      rw [← hw4]; exact hl8.out.farT (Nat.lt_succ_self _) _)
                    have B4 := hid (show Below w.heap.size w w4 by rw [← hw4]; exact hB.out.setCell (Nat.le_refl _) _)
                    have z4 : w4.heap.size = wr.heap.size := by rw [← hw4]; simp [World.setCell]
                    have hz4 : w.heap.size + 1 ≤ w4.heap.size := by omega
                    clear z4
                    have hlen4 : (Lm.map fun e => e.1).length < 1099511627776 := by rw [List.length_map, hnm'.out]; omega
                    replace hw4 := hid hw4
                    clear hnx hnot hvis hbs hrs hpbe hbf hl8
                    go_wp2_with fail
                    refine (l21Next_as hnx'.out _ hR9.out hn hs'.out).mono ?_
                    rintro e w9 ⟨rfl, rfl⟩
                    go_upto_region 23 with (fail)
                    rw [hw4.out]
                    clear hw4 cb fb hcz
                    go_wp2_with (at_builtin; refine wpList_app1 rfl (.tmp 77) (.tmp 79) rfl (w.heap.size + 1) (m : Int) _ _ rfl rfl l4.out hz4 hlen4 ?_; intro v' w5 ho5 hb5)
                    have hmap := hid (show ((Lm ++ [((m : Int), z, d + 1)]).map fun e => e.1) = (Lm.map fun e => e.1) ++ [(m : Int)] by simp)
                    go_roundw
                    case rel => exact ⟨m + 1, by omega, by go_num, by rw [hrs2.out, hmap.out]; exact ho5, by rw [hrs2.out]; exact hid (own_of_block bf4.out fun g hg => hb5.block g (by injection hg with hg; subst hg; exact Nat.lt_succ_self _)), by rw [hrs2.out]; exact hP2, by rw [hrs2.out]; exact hN2, hle2, hid (B4.out.trans (hb5.mono (Nat.le_succ _)))⟩
                    case measure => simp [intOf]; omega
                  · have hin : (m : Int) ∈ Lm.map fun e => e.1 := Classical.byContradiction fun h => hpb ((hPm.out.test hmf).2 h)
                    have hrs2 := hid (show rowTo (nxT zss) z d (m + 1) L = Lm by rw [hrs.out]; exact visB_no (.inr hin))
                    have hnx' := hid hnx
                    obtain ⟨pb, hpbe⟩ : ∃ pb, parB Lm (m : Int) = pb := ⟨_, rfl⟩
                    rw [hpbe] at cb hpb
                    clear hnx hin hrs hle hpbe
                    go_wp2_with fail
                    refine (l21Next_as hnx'.out _ hR9.out hn hs'.out).mono ?_
                    rintro e w9 ⟨rfl, rfl⟩
                    go_wp2
                    go_roundw
                    case rel => exact ⟨m + 1, by omega, by go_num, by rw [hrs2.out]; exact hl8, by rw [hrs2.out]; exact hbf, by rw [hrs2.out]; exact hPm, by rw [hrs2.out]; exact hN, hle2, hB⟩
                    case measure => simp [intOf]; omega
            · obtain rfl : m = 12 := by omega
              have hxf : nxT zss x f = false := by
                cases h : nxT zss x f with
                | false => rfl
                | true => have := hle.out h; omega
              rw [rowTo_12] at hl hbf hPm
              have hI2 := hid (hI.out.step hLi'.out hxf)
              have hrest2 := hid (show bfsB (nxT zss) f (13 - (i + 1)) (i + 1) (rowB (nxT zss) x d msg12 L) = pathB (nxT zss) f from by
                have := hrest.out
                rw [show 13 - i = (13 - (i + 1)) + 1 by omega] at this
                unfold bfsB at this
                rw [hLi'.out] at this
                simp only [hxf] at this
                exact this)
              clear hxf hrs
              go_wp2
              go_roundw
              case rel => exact ⟨i + 1, _, by go_num, by omega, hl, hbf, hI2, hPm, hrest2, hB⟩
              case measure => simp [intOf]; omega
        · have hie : i = nl := by
            have := hI.out.le
            rw [hnl] at this; omega
          have hpath := hid (show pathB (nxT zss) f = [] from by
            have := hrest.out
            rw [show 13 - i = (12 - i) + 1 by omega] at this
            unfold bfsB at this
            rw [List.getElem?_eq_none (by omega)] at this
            exact this.symm)
          have i1 : ¬ ((i : Int) < (nl : Int)) := by omega
          have he := hid (OwI.empty_lit (B := w.heap.size) wr hsz)
          have hb := hid (hB.out.alloc hsz (.cells #[] 3))
          clear hie hnl
          go_wp2
          go_ret
          exact ⟨_, rfl, by rw [hpath.out]; exact he.out, hb.out⟩

def cycTo (nx : Int → Int → Bool) (m : Nat) : List Int := ((List.range m).map fun (i : Nat) => (i : Int)).foldl (stepC nx) []

theorem cycTo_12 (nx : Int → Int → Bool) : cycTo nx 12 = cycB nx := rfl

theorem cycTo_succ (nx : Int → Int → Bool) (m : Nat) : cycTo nx (m + 1) = stepC nx (cycTo nx m) (m : Int) := by
  unfold cycTo
  rw [List.range_succ, List.map_append, List.foldl_append]; rfl

set_option maxRecDepth 100000 in
set_option maxHeartbeats 4000000 in
theorem TraceCycle_spec {n c : Nat} {A : Option Addr} {zss : List (List Int)} (w : World) (hr : RdT w w.heap.size A n zss) (hn : n < 1099511627776) (hs : ShT zss) :
    Calls Try.prog 24 #[.slice A n c] w (NewI w (tcR zss)) := by
  have hr' := hid hr
  have hs' := hid hs
  have he := hid (OwI.empty_lit w (Nat.le_refl w.heap.size))
  have hb0 := hid ((Below.refl w.heap.size w).alloc (Nat.le_refl _) (.cells #[] 3))
  clear hr hs
  cases hv : trsB zss with
  | false =>
    have hto := hid (show tcR zss = [] by unfold tcR; rw [hv]; rfl)
    have hv' := hid hv
    have hr1 := hid (hr'.out.alloc (Nat.le_refl _) (.cells #[] 3))
    clear hv
    go_enter Try.func24, Try.ntmps24
    go_wp2
    go_loopw [3, 4] (fun v i wr => v = .slice (some ⟨w.heap.size, 0, none⟩) 0 0 ∧ i = .int .i64 0 ∧ Hid (OwI wr w.heap.size (.slice (some ⟨w.heap.size, 0, none⟩) 0 0) []) ∧ Hid (Below w.heap.size w wr)) (fun _ _ _ => 0)
    case atStart => exact ⟨rfl, rfl, he, hb0⟩
    case round =>
      clear he hb0 hr1
      obtain ⟨rfl, rfl, ho, hB⟩ := hrel
      go_wp2_with fail
      refine (TracesValid_as hv'.out _ (hr'.out.below hB.out) hn hs'.out).mono ?_
      rintro e w1 ⟨rfl, hq1⟩
      have h1 := hid (hq1.own ho.out)
      have h2 := hid (hB.out.trans (hq1.below _))
      clear hq1
      go_wp2
      go_ret
      exact ⟨_, rfl, by rw [hto.out]; exact h1.out, h2.out⟩
  | true =>
    have hto := hid (show tcR zss = cycB (nxT zss) by unfold tcR; rw [hv]; rfl)
    have hvv := hid (trsB_true.1 hv).1
    have hv' := hid hv
    clear hv
    go_enter Try.func24, Try.ntmps24
    go_wp2
    go_loopw [3, 4] (fun v i wr => ∃ m : Nat, m ≤ 12 ∧ i = .int .i64 m ∧ Hid (OwI wr w.heap.size v (cycTo (nxT zss) m)) ∧ Hid (Below w.heap.size w wr)) (fun _ i _ => 12 - (intOf i).toNat)
    case atStart => exact ⟨0, by omega, rfl, he, hb0⟩
    case round =>
      clear he hb0
      obtain ⟨m, hm, rfl, ho, hB⟩ := hrel
      have hsz := hB.out.size
      by_cases hlt : m < 12
      · have m0 : (0 : Int) ≤ (m : Int) := by omega
        have m1 : (m : Int) ≤ 11 := by omega
        have m2 : (m : Int) < 12 := by omega
        have m3 : decide ((m : Int) < 12) = true := by simp; omega
        have hst := hid (cycTo_succ (nxT zss) m)
        go_wp2_with fail
        refine (TracesValid_as hv'.out _ (hr'.out.below hB.out) hn hs'.out).mono ?_
        rintro e w1 ⟨rfl, hq1⟩
        have hz1 := hq1.size
        have O1 := hid (hq1.own ho.out)
        have B1 := hid (hB.out.trans (hq1.below _))
        have R1 := hid ((hr'.out.below B1.out).more B1.out.size)
        have hs1 := B1.out.size
        clear hq1 hz1 ho hB
        go_wp2_with fail
        refine (l21Path_any (m : Int) _ R1.out hn hs'.out hvv.out m0 m1).mono ?_
        rintro e w2 ⟨v2, rfl, ho2, hb2⟩
        have O2 := hid (O1.out.below hb2)
        have B2 := hid (B1.out.trans (hb2.mono hs1))
        obtain ⟨P, hP⟩ : ∃ P, pathB (nxT zss) (m : Int) = P := ⟨_, rfl⟩
        obtain ⟨Q, hQ⟩ : ∃ Q, cycTo (nxT zss) m = Q := ⟨_, rfl⟩
        have hst2 := hid (show cycTo (nxT zss) (m + 1) = if P ≠ [] ∧ (Q = [] ∨ P.length < Q.length) then P else Q from by
          rw [hst.out]; unfold stepC; rw [hP, hQ])
        rw [hP] at ho2
        rw [hQ] at O2
        have P2 := hid (ho2.more hs1)
        obtain ⟨A2, c2, rfl, _⟩ := ho2.form
        obtain ⟨A3, c3, rfl, _⟩ := O2.out.form
        obtain ⟨lp, hlp⟩ : ∃ l, P.length = l := ⟨_, rfl⟩
        obtain ⟨lq, hlq⟩ : ∃ l, Q.length = l := ⟨_, rfl⟩
        rw [hlp] at P2 ⊢
        rw [hlq] at O2 ⊢
        have hlp' := hid hlp
        have hlq' := hid hlq
        clear ho2 hb2 hP hQ hst O1 B1 R1 hlp hlq
        by_cases p0 : lp = 0
        · have hn1 := hid (show cycTo (nxT zss) (m + 1) = Q from by
            rw [hst2.out, if_neg (fun h => h.1 (List.eq_nil_of_length_eq_zero (by rw [hlp'.out]; exact p0)))])
          have c1 : decide ((0 : Int) < (lp : Int)) = false := by simp; omega
          have c2 : ¬ ((0 : Int) < (lp : Int)) := by omega
          go_wp2
          go_roundw
          case rel => exact ⟨m + 1, by omega, by go_num, by rw [hn1.out]; exact O2, B2⟩
          case measure => simp [intOf]; omega
        · have c1 : decide ((0 : Int) < (lp : Int)) = true := by simp; omega
          have hPn : P ≠ [] := fun e => p0 (by rw [← hlp'.out, e]; rfl)
          by_cases q0 : lq = 0
          · have hn1 := hid (show cycTo (nxT zss) (m + 1) = P from by
              rw [hst2.out, if_pos ⟨hPn, .inl (List.eq_nil_of_length_eq_zero (by rw [hlq'.out]; exact q0))⟩])
            have c2 : ((lq : Int) == 0) = true := by simp; omega
            clear hPn
            go_wp2
            go_roundw
            case rel => exact ⟨m + 1, by omega, by go_num, by rw [hn1.out]; exact P2, B2⟩
            case measure => simp [intOf]; omega
          · have c2 : ((lq : Int) == 0) = false := by simp; omega
            have hQn : Q ≠ [] := fun e => q0 (by rw [← hlq'.out, e]; rfl)
            by_cases pq : lp < lq
            · have hn1 := hid (show cycTo (nxT zss) (m + 1) = P from by
                rw [hst2.out, if_pos ⟨hPn, .inr (by rw [hlp'.out, hlq'.out]; exact pq)⟩])
              have c4 : decide ((lp : Int) < (lq : Int)) = true := by simp; omega
              clear hPn hQn
              go_wp2
              go_roundw
              case rel => exact ⟨m + 1, by omega, by go_num, by rw [hn1.out]; exact P2, B2⟩
              case measure => simp [intOf]; omega
            · have hn1 := hid (show cycTo (nxT zss) (m + 1) = Q from by
                rw [hst2.out, if_neg]
                rintro ⟨_, h | h⟩
                · exact hQn h
                · rw [hlp'.out, hlq'.out] at h; exact pq h)
              have c4 : decide ((lp : Int) < (lq : Int)) = false := by simp; omega
              have c5 : ¬ ((lp : Int) < (lq : Int)) := by omega
              clear hPn hQn
              go_wp2
              go_roundw
              case rel => exact ⟨m + 1, by omega, by go_num, by rw [hn1.out]; exact O2, B2⟩
              case measure => simp [intOf]; omega
      · obtain rfl : m = 12 := by omega
        have hfin := hid (show cycTo (nxT zss) 12 = tcR zss by rw [hto.out]; rfl)
        go_wp2
        go_ret
        exact ⟨_, rfl, by rw [← hfin.out]; exact ho.out, hB.out⟩
end Go.Proofs.Ytdhafappclcijaa
