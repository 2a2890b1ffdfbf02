/-
  The walk of the law FnGroupTrace: it returns true, and nothing that was there is written. No condition.
-/
import Derived.Test.YtbnmeedmeikepaaGnM
import Derived.Deep.CutBlock
import Derived.Deep.RegionLaw
import Derived.Deep.RegionHeld3
namespace Go.Proofs.Ytbnmeedmeikepaa
open Go.RowKit
set_option linter.unusedVariables false
set_option linter.unusedSimpArgs false


theorem RdI.takeN {w : World} {B n k : Nat} {A : Option Addr} {zs : List Int} (h : RdI w B A n zs) (hk : k ≤ n) : RdI w B A k (zs.take k) := by
  have hl := h.len
  refine ⟨by simp; omega, fun h0 => ?_⟩
  obtain ⟨ad, e, hb, hc⟩ := h.2 (by omega)
  refine ⟨ad, e, hb, fun j u hu => hc j u ?_⟩
  simp only [ints, List.map_take, List.getElem?_take] at hu
  split at hu
  · exact hu
  · cases hu

theorem Lv.capG {w : World} {lo hi n c : Nat} {A : Option Addr} {zs : List Int} (h : Lv w lo hi (.slice A n c) zs) : n ≤ c ∧ c ≤ maxLen := by
  have hl : zs.length = n := h.at_.len
  rcases h.1.1.2 with ⟨e, h0⟩ | ⟨g, cap, cur, e, _, _, h1, h2, _⟩
  · injection e with _ e2 e3
    subst e2; subst e3
    exact ⟨Nat.le_refl _, Nat.zero_le _⟩
  · injection e with _ e2 e3
    subst e3
    exact ⟨by omega, h2⟩

theorem tr_lenN {g : Gp} {T : List Int} (h : trR g = T) : T.length ≤ g.D.length := by
  rw [← h, trR]
  split
  · simp [msgs]
  · exact Nat.zero_le _

theorem tr_diff {g : Gp} {T : List Int} (h : trR g = T) : T.Nodup ∧ ∀ e ∈ g.P, ∀ z ∈ T, e.1 ≠ z := by
  subst h
  unfold trR
  split
  · rename_i hv
    have hvd := vdB_true.1 hv
    have hn := (rel_iff.1 hvd.D.2).2
    refine ⟨hn, fun e he z hz => ?_⟩
    obtain ⟨d, hd, rfl⟩ := List.mem_map.1 hz
    exact fun h => (hvd.lt hd he).2 h.symm
  · exact ⟨List.nodup_nil, fun e he z hz => by cases hz⟩

theorem nodup_take {T : List Int} (h : T.Nodup) {q : Nat} (hq : q < T.length) {z : Int} (hz : T.getD q 0 = z) : hasB (T.take q) z = false := by
  rw [Bool.eq_false_iff]
  intro hb
  have hm := hasB_iff.1 hb
  obtain ⟨i, hi, e⟩ := List.getElem_of_mem hm
  have hi2 := hi
  rw [List.length_take] at hi2
  rw [List.getElem_take] at e
  have hz2 : T[q] = z := by rw [← hz]; simp [hq]
  have := (List.nodup_iff_pairwise_ne.1 h) |> List.pairwise_iff_getElem.1
  exact this i q (by omega) hq (by omega) (e.trans hz2.symm)

theorem hasInt_asN {B n c : Nat} {A : Option Addr} {zs : List Int} {x : Int} {b : Bool} (h : hasB zs x = b) (w : World) (hr : RdI w B A n zs) (hn : n < 1099511627776) :
    Calls Try.prog 19 #[.slice A n c, .int .i64 x] w fun e w' => e = .returned (.bool b) ∧ w = w' := by
  subst h; exact hasInt_any x w hr hn


set_option maxRecDepth 100000 in
set_option maxHeartbeats 16000000 in
theorem lawGroupTrace_at {a : Option Addr} {len cap : Nat} {zs : List Int} (w u0 : World) (h : RowIs .u8 u0 a len cap zs) (hB0 : Below w.heap.size w u0) (z_0 : w.heap.size ≤ u0.heap.size) :
    Calls Try.prog 5 #[.slice a len cap] u0 fun e w' => e = .returned (.bool true) ∧ Below w.heap.size w w' := by
  have hl := h.len_leN
  have B_0 := hid hB0
  have h' := hid h
  clear hB0 h
  by_cases hbig : 1048576 < len
  · go_enter Try.func5, Try.ntmps5
    go_wp2
    go_ret
    exact ⟨rfl, B_0.out⟩
  · go_enter Try.func5, Try.ntmps5
    go_wp2_with fail
    refine (DrawGroupTrace_any _ h'.out).mono ?_
    rintro e u1 ⟨i, k, A0, c0, E0, d0, P, D, rfl, ho, hl, hb⟩
    have hb_1 := hid hb
    have B_1 := hid (B_0.out.trans (hb_1.out.mono (by omega)))
    have z_1 : u0.heap.size ≤ u1.heap.size := hb_1.out.size
    clear  B_0
    clear hb_1
    clear hb
    have hP13 : P.length ≤ 13 := by omega
    have hD13 : D.length ≤ 13 := by omega
    clear hl
    have LG_1 := hid (Lg.of ho)
    clear ho
    go_upto_region 4 with (fail)
    obtain ⟨u2, hu⟩ : ∃ W, (u1.alloc (.cells #[.int .i64 i, .int .i64 k, .slice A0 P.length c0, .slice E0 D.length d0] 25)) = W := ⟨_, rfl⟩
    rw [hu]
    have hb : Below u1.heap.size u1 u2 := by rw [← hu]; exact below1 _ _
    have hcG : Cs u2 (u1.heap.size) 25 #[.int .i64 i, .int .i64 k, .slice A0 P.length c0, .slice E0 D.length d0] := by rw [← hu]; exact Cs.new _ _ _
    clear hu
    have hb_2 := hid hb
    have LG_2 := hid (LG_1.out.step hb_2.out)
    have B_2 := hid (B_1.out.trans (hb_2.out.mono (by omega)))
    have z_2 : u1.heap.size ≤ u2.heap.size := hb_2.out.size
    clear LG_1 B_1
    clear hb_2
    clear hb
    have KG_2 := hid hcG
    have yG_2 : u1.heap.size < u2.heap.size := hcG.lt
    clear hcG
    obtain ⟨T, hT⟩ : ∃ T, trR ⟨i, k, P, D⟩ = T := ⟨_, rfl⟩
    have hTl : T.length ≤ D.length := tr_lenN hT
    obtain ⟨hnd, hno⟩ := tr_diff hT
    simp only at hno
    replace hnd := hid hnd
    replace hno := hid hno
    replace hT := hid hT
    obtain ⟨qG0, qG1, qG2, qG3⟩ := KG_2.out.four
    go_wp2_with fail
    refine (GroupTrace_impl hT.out _ (LG_2.out.ow.rdg (by omega) (by omega))).mono ?_
    rintro e u3 ⟨Ao, co, rfl, oo, hb⟩
    clear qG0 qG1 qG2 qG3
    have hb_3 := hid hb
    have KG_3 := hid (KG_2.out.step hb_3.out)
    have LG_3 := hid (LG_2.out.step hb_3.out)
    have B_3 := hid (B_2.out.trans (hb_3.out.mono (by omega)))
    have z_3 : u2.heap.size ≤ u3.heap.size := hb_3.out.size
    clear KG_2 LG_2 B_2
    clear hb_3
    clear hb
    have No_3 := hid (Lv.ofI oo)
    clear oo
    obtain ⟨qG0, qG1, qG2, qG3⟩ := KG_3.out.four
    go_wp2_with fail
    refine (GroupTrace_spec hT.out _ (LG_3.out.ow.rdg (by omega) (by omega))).mono ?_
    rintro e u4 ⟨Aw, cw, rfl, ow, hb⟩
    clear qG0 qG1 qG2 qG3
    have hb_4 := hid hb
    have KG_4 := hid (KG_3.out.step hb_4.out)
    have LG_4 := hid (LG_3.out.step hb_4.out)
    have No_4 := hid (No_3.out.step hb_4.out)
    have B_4 := hid (B_3.out.trans (hb_4.out.mono (by omega)))
    have z_4 : u3.heap.size ≤ u4.heap.size := hb_4.out.size
    clear KG_3 LG_3 No_3 B_3
    clear hb_4
    clear hb
    have Nw_4 := hid (Lv.ofI ow)
    clear ow
    go_wp2_with fail
    refine (sameInts_any _ No_4.out.at_ Nw_4.out.at_ (by omega) (by omega)).mono ?_
    rw [sameB_selfN]
    rintro e u5 ⟨rfl, hq⟩
    have hb_5 := hid (hq.below u4.heap.size)
    have KG_5 := hid (KG_4.out.step hb_5.out)
    have LG_5 := hid (LG_4.out.step hb_5.out)
    have No_5 := hid (No_4.out.step hb_5.out)
    have Nw_5 := hid (Nw_4.out.step hb_5.out)
    have B_5 := hid (B_4.out.trans (hb_5.out.mono (by omega)))
    have z_5 : u4.heap.size ≤ u5.heap.size := hb_5.out.size
    clear KG_4 LG_4 No_4 Nw_4 B_4
    clear hb_5
    clear hq
    clear Nw_5
    go_wp2_with fail
    go_loopw [6] (fun v wr => ∃ q : Nat, q ≤ T.length ∧ v = .int .i64 q ∧ Hid (Below u5.heap.size u5 wr)) (fun v _ => T.length - (intOf v).toNat)
    case atStart => exact ⟨0, by omega, rfl, hid (Below.refl _ _)⟩
    case round =>
      obtain ⟨q, hq, rfl, hB⟩ := hrel
      have hsz := hB.out.size
      have KG_r := hid (KG_5.out.step hB.out)
      have LG_r := hid (LG_5.out.step hB.out)
      have No_r := hid (No_5.out.step hB.out)
      by_cases hlt : q < T.length
      · obtain ⟨ad, z, rfl, hz, hc⟩ := RdI.at' No_r.out.at_ hlt
        have i0 : (0 : Int) ≤ (q : Int) := by omega
        have i1 : (q : Int) < (T.length : Int) := by omega
        have i2 : (q : Int) ≤ (T.length : Int) := by omega
        have hcap := No_r.out.capG.1
        have hzf := hid (nodup_take hnd.out hlt hz.out)
        have hzm := hid (show z ∈ T by rw [← hz.out]; simp [hlt])
        have hcH := hid hc
        have NR : ∀ x : BW wr, RdI x.wd x.wd.heap.size (some ad) q (T.take q) := fun x => RdI.takeN ((Reads.below No_r.out.at_ x.below).more x.below.size) (by omega)
        have CZ : ∀ x : BW wr, x.wd.cell? (ad.add q) = some (.int .i64 z) := fun x => (x.below.cell (World.block_lt_of_cell? wr _ hcH.out)).trans hcH.out
        clear hc hz
        go_wp2_with fail
        refine wp_region_below (by kernel_rfl) (by kernel_rfl) ?_
        repeat (go_big_quiet_step ((go_at_call 19; exact BW.same _ (hasInt_asN hzf.out _ (NR _) (by omega)))))
        refine wpQuiet_nil ?_
        intro wo hb1
        have BO := hid (hB.out.trans (hb1.mono hsz))
        have hso := BO.out.size
        have KG_o := hid (KG_r.out.step hb1)
        have LG_o := hid (LG_r.out.step hb1)
        have hcO := hid ((hb1.cell (World.block_lt_of_cell? wr _ hcH.out)).trans hcH.out)
        clear NR CZ hb1
        go_wp2_with fail
        go_loopw [7] (fun i wr => ∃ p : Nat, p ≤ P.length ∧ i = .int .i64 p ∧ Hid (Below wo.heap.size wo wr)) (fun i _ => P.length - (intOf i).toNat)
        case atStart => exact ⟨0, by omega, rfl, hid (Below.refl _ _)⟩
        case round =>
          obtain ⟨p, hp, rfl, hD⟩ := hrel
          obtain ⟨y0, y1, y2, y3⟩ := (KG_o.out.step hD.out).four
          by_cases hpl : p < P.length
          · obtain ⟨b, off, m, t, g, f, rfl, hx, hbb, v0, v1, v2, v3⟩ := (LG_o.out.step hD.out).r1.at_ hpl
            have j0 : (0 : Int) ≤ (p : Int) := by omega
            have j1 : (p : Int) < (P.length : Int) := by omega
            have hne := hno.out _ (List.mem_of_getElem? hx.out) z hzm.out
            simp only at hne
            have e9 : (m == z) = false := by simp [hne]
            have G2 : ∀ x : BW wr, x.wd.cell? ⟨u1.heap.size, 2, none⟩ = some (.slice (some ⟨b, off, none⟩) P.length c0) := fun x => x.cell y2
            have C0 : ∀ x : BW wr, x.wd.cell? ⟨b, off + p * 4, none⟩ = some (.int .i64 m) := fun x => x.cell v0
            have hcR := hid ((hD.out.cell (World.block_lt_of_cell? wo _ hcO.out)).trans hcO.out)
            have CZ : ∀ x : BW wr, x.wd.cell? (ad.add q) = some (.int .i64 z) := fun x => (x.below.cell (World.block_lt_of_cell? wr _ hcR.out)).trans hcR.out
            clear v0 v1 v2 v3 hx hne
            go_wp2_with fail
            clear y0 y1 y2 y3
            refine wp_region_below (by kernel_rfl) (by kernel_rfl) ?_
            repeat (go_big_quiet_step (fail))
            refine wpQuiet_nil ?_
            intro w1 hb1
            have hD1 := hid (hD.out.trans (hb1.mono hD.out.size))
            clear hb1
            go_wp2
            go_roundw
            case rel => exact ⟨p + 1, by omega, by go_num, hD1⟩
            case measure => simp [intOf]; omega
          · have hBc := hid (BO.out.trans (hD.out.mono hso))
            go_wp2
            go_roundw
            case rel => exact ⟨q + 1, by omega, by go_num, hBc⟩
            case measure => simp [intOf]; omega
      · go_wp2
        go_ret
        exact ⟨rfl, B_5.out.trans (hB.out.mono (by omega))⟩

theorem lawGroupTrace {a : Option Addr} {len cap : Nat} {zs : List Int} (w : World) (h : RowIs .u8 w a len cap zs) :
    Calls Try.prog 5 #[.slice a len cap] w fun e w' => e = .returned (.bool true) ∧ Below w.heap.size w w' :=
  lawGroupTrace_at w w h (Below.refl _ _) (Nat.le_refl _)
end Go.Proofs.Ytbnmeedmeikepaa
