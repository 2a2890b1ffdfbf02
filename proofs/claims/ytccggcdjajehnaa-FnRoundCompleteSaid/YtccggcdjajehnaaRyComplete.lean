/-
  The walk of the law FnRoundComplete: it returns true, and nothing that was there is written. No condition.
-/
import Derived.Test.YtccggcdjajehnaaRmY
import Derived.Test.YtccggcdjajehnaaRyM
import Derived.Test.YtccggcdjajehnaaRmI
import Derived.Test.YtccggcdjajehnaaRmJ
import Derived.Test.YtccggcdjajehnaaRmG
import Derived.Test.YtccggcdjajehnaaRmK
import Derived.Deep.CutBlock
import Derived.Deep.RegionLaw
import Derived.Deep.RegionHeld3
import Derived.Deep.DeepCutAuto
namespace Go.Proofs.Ytccggcdjajehnaa
open Go.RowKit
set_option linter.unusedVariables false
set_option linter.unusedSimpArgs false


theorem hasInt_asR {B n c : Nat} {A : Option Addr} {zs : List Int} {x : Int} {b : Bool} (h : hasB zs x = b) (w : World) (hr : RdI w B A n zs) (hn : n < 1099511627776) :
    Calls Try.prog 22 #[.slice A n c, .int .i64 x] w fun e w' => e = .returned (.bool b) ∧ w = w' := by
  subst h; exact hasInt_any x w hr hn

theorem time_ok (n k : Nat) (hn : n ≤ 1048576) (hk : k ≤ 6) : 1 ≤ IntKind.i64.wrap (1 + (IntKind.i64.wrap ((n : Int) + (k : Int))).tmod 9) ∧ IntKind.i64.wrap (1 + (IntKind.i64.wrap ((n : Int) + (k : Int))).tmod 9) ≤ 999 := by
  have e1 : IntKind.i64.wrap ((n : Int) + (k : Int)) = (n : Int) + (k : Int) := IntWalk.i64_in _ (by omega)
  rw [e1, Int.tmod_eq_emod_of_nonneg (by omega), IntWalk.i64_in _ (by omega)]
  omega

theorem comp_step {m : Int} {gs M : List Int} {ys : List St} {k : Nat} {z t : Int} (hI : rvB m gs ys = true ∧ misL gs ys = M.drop k ∧ ys.length ≤ 6) (hk : k < M.length) (hz : M.getD k 0 = z) (ht : 1 ≤ t ∧ t ≤ 999) (hl : gs.length ≤ 6) :
    ∃ ys', adR m gs ys (t, z) = ⟨m, gs, ys', true⟩ ∧ (rvB m gs ys' = true ∧ misL gs ys' = M.drop (k + 1) ∧ ys'.length ≤ 6) := by
  obtain ⟨hv, hm, hl6⟩ := hI
  have hg : M[k] = z := by rw [← hz]; simp [hk]
  rw [List.drop_eq_getElem_cons hk, hg] at hm
  have hvv := rvB_true.1 hv
  obtain ⟨ha, hm'⟩ := mis_ins (s := (t, z)) (gvalid_asc hvv.2.2) hm
  have hr := gvalid_mem hvv.2.2 (adB_true.1 ha).1
  have hs : okS (t, z) = true := okS_iff.2 ⟨ht.1, ht.2, hr⟩
  have hv' := ins_validM hv hs ha
  have := misL_len hvv.2.2 (rvB_true.1 hv').1
  exact ⟨_, ad_yes hv hs ha, hv', hm', by omega⟩

theorem comp_end {m : Int} {gs : List Int} {ys : List St} (hI : rvB m gs ys = true ∧ misL gs ys = []) : ∃ ft fg, fnR m gs ys = (ft, fg) ∧ fnB m gs ys = true ∧ hasB gs fg = true := by
  obtain ⟨hv, hm⟩ := hI
  have hvv := rvB_true.1 hv
  have hb : fnB m gs ys = true := by
    rw [fnB, hv, Bool.true_and, decide_eq_true_eq]
    have := misL_len hvv.2.2 hvv.1
    rw [hm, List.length_nil] at this
    omega
  obtain ⟨h1, h2⟩ := fn_true hb
  have hmem := maxR_mem h2
  rw [← h1] at hmem
  exact ⟨_, _, rfl, hb, hasB_iff.2 (okR_iff.1 (hvv.1.1 _ hmem)).2⟩

/-- the round and the bool that RoundAdd handed back, the round in a box of the law's own -/
def CutA (u wx : World) (om : Int) (og : List Int) (ox : List St) (ok : Bool) (v q : Value) : Prop :=
  ∃ (bx : Nat) (A1 : Option Addr) (c1 : Nat) (A2 : Option Addr) (c2 : Nat), v = .pointer (some ⟨bx, 0, none⟩) ∧ q = .bool ok ∧ Hid (Below u.heap.size u wx) ∧ u.heap.size ≤ bx ∧ Hid (Cs wx bx 28 #[.int .i64 om, .slice A1 og.length c1, .slice A2 ox.length c2]) ∧ Hid (OwR wx u.heap.size A1 og.length c1 A2 ox.length c2 og ox)

theorem CutA.fresh {u X : World} {lo : Nat} {om : Int} {og : List Int} {ox : List St} {ok : Bool} {A1 A2 : Option Addr} {c1 c2 : Nat} (D : Below u.heap.size u X) (hlo : u.heap.size ≤ lo) (ho : OwR X lo A1 og.length c1 A2 ox.length c2 og ox) :
    CutA u (X.alloc (.cells #[.int .i64 om, .slice A1 og.length c1, .slice A2 ox.length c2] 28)) om og ox ok (.pointer (some ⟨X.heap.size, 0, none⟩)) (.bool ok) :=
  ⟨_, A1, c1, A2, c2, rfl, rfl, hid (D.alloc D.size _), D.size, hid (Cs.new X _ _), hid ((ho.below (below1 X _)).more hlo)⟩

theorem CutA.old {u X : World} {lo bx : Nat} {om : Int} {og : List Int} {ox : List St} {ok : Bool} {A1 A2 : Option Addr} {c1 c2 : Nat} (D : Below u.heap.size u X) (z : Cs X bx 28 #[.int .i64 0, .slice none 0 0, .slice none 0 0]) (hb : u.heap.size ≤ bx) (hbl : bx < lo) (ho : OwR X lo A1 og.length c1 A2 ox.length c2 og ox) :
    CutA u (((X.setCell ⟨bx, 0, none⟩ (.int .i64 om)).setCell ⟨bx, 1, none⟩ (.slice A1 og.length c1)).setCell ⟨bx, 2, none⟩ (.slice A2 ox.length c2)) om og ox ok (.pointer (some ⟨bx, 0, none⟩)) (.bool ok) :=
  ⟨bx, A1, c1, A2, c2, rfl, rfl, hid (((D.setCell (p := ⟨bx, 0, none⟩) hb _).setCell (p := ⟨bx, 1, none⟩) hb _).setCell (p := ⟨bx, 2, none⟩) hb _), hb, hid (z.set3 _ _ _), hid ((((ho.setLow (p := ⟨bx, 0, none⟩) hbl _).setLow (p := ⟨bx, 1, none⟩) hbl _).setLow (p := ⟨bx, 2, none⟩) hbl _).more (by omega))⟩


set_option maxRecDepth 100000 in
set_option maxHeartbeats 16000000 in
theorem lawRoundComplete_at {a : Option Addr} {len cap : Nat} {zs : List Int} {a2 : Option Addr} {len2 cap2 : Nat} {ys : List Int} (w u0 : World) (h : RowIs .u8 u0 a len cap zs) (g : RowIs .u8 w a2 len2 cap2 ys) (hB0 : Below w.heap.size w u0) (z_0 : w.heap.size ≤ u0.heap.size) :
    Calls Try.prog 10 #[.slice a len cap, .slice a2 len2 cap2] u0 fun e w' => e = .returned (.bool true) ∧ Below w.heap.size w w' := by
  have hl := h.len_leR
  have B_0 := hid hB0
  have h' := hid h
  clear hB0 h
  by_cases hbig : 1048576 < len
  · go_enter Try.func10, Try.ntmps10
    go_wp2
    go_ret
    exact ⟨rfl, B_0.out⟩
  · have gl := g.len_leR
    have g' := hid g
    clear g
    by_cases hbig2 : 1048576 < len2
    · go_enter Try.func10, Try.ntmps10
      go_wp2
      go_ret
      exact ⟨rfl, B_0.out⟩
    · go_enter Try.func10, Try.ntmps10
      go_wp2_with fail
      refine (DrawRoundMissing_any _ h'.out).mono ?_
      rintro e u1 ⟨m, A1, c1, A2, c2, gs, xs, rfl, o1, ⟨hl1, hl2⟩, hb⟩
      have hb_1 := hid hb
      have B_1 := hid (B_0.out.trans (hb_1.out.mono (by omega)))
      have z_1 : u0.heap.size ≤ u1.heap.size := hb_1.out.size
      clear  B_0
      clear hb_1
      clear hb
      have Lr_1 := hid (Lr.of o1)
      clear o1
      go_upto_region 4 with (fail)
      obtain ⟨u2, hu⟩ : ∃ W, (u1.alloc (.cells #[.int .i64 m, .slice A1 gs.length c1, .slice A2 xs.length c2] 28)) = W := ⟨_, rfl⟩
      rw [hu]
      have hb : Below u1.heap.size u1 u2 := by rw [← hu]; exact below1 _ _
      have hcr : Cs u2 (u1.heap.size) 28 #[.int .i64 m, .slice A1 gs.length c1, .slice A2 xs.length c2] := by rw [← hu]; exact Cs.new _ _ _
      clear hu
      have hb_2 := hid hb
      have Lr_2 := hid (Lr_1.out.step hb_2.out)
      have B_2 := hid (B_1.out.trans (hb_2.out.mono (by omega)))
      have z_2 : u1.heap.size ≤ u2.heap.size := hb_2.out.size
      clear Lr_1 B_1
      clear hb_2
      clear hb
      have Kr_2 := hid hcr
      have yr_2 : u1.heap.size < u2.heap.size := hcr.lt
      clear hcr
      obtain ⟨M, hM⟩ : ∃ M, misR m gs xs = M := ⟨_, rfl⟩
      have hml := misR_len hM
      replace hM := hid hM
      obtain ⟨qr0, qr1, qr2⟩ := Kr_2.out.three
      go_wp2_with fail
      refine (RoundMissing_impl hM.out _ (Lr_2.out.ow.rd (by omega) (by omega))).mono ?_
      rintro e u3 ⟨Ao, co, rfl, oo, hb⟩
      clear qr0 qr1 qr2
      have hb_3 := hid hb
      have Kr_3 := hid (Kr_2.out.step hb_3.out)
      have Lr_3 := hid (Lr_2.out.step hb_3.out)
      have B_3 := hid (B_2.out.trans (hb_3.out.mono (by omega)))
      have z_3 : u2.heap.size ≤ u3.heap.size := hb_3.out.size
      clear Kr_2 Lr_2 B_2
      clear hb_3
      clear hb
      have No_3 := hid (Lv.ofI oo)
      clear oo
      obtain ⟨qr0, qr1, qr2⟩ := Kr_3.out.three
      go_wp2_with fail
      refine (RoundMissing_spec hM.out _ (Lr_3.out.ow.rd (by omega) (by omega))).mono ?_
      rintro e u4 ⟨Aw, cw, rfl, ow, hb⟩
      clear qr0 qr1 qr2
      have hb_4 := hid hb
      have Kr_4 := hid (Kr_3.out.step hb_4.out)
      have Lr_4 := hid (Lr_3.out.step hb_4.out)
      have No_4 := hid (No_3.out.step hb_4.out)
      have B_4 := hid (B_3.out.trans (hb_4.out.mono (by omega)))
      have z_4 : u3.heap.size ≤ u4.heap.size := hb_4.out.size
      clear Kr_3 Lr_3 No_3 B_3
      clear hb_4
      clear hb
      have Nw_4 := hid (Lv.ofI ow)
      clear ow
      cases hv : rvB m gs xs with
      | false =>
        replace hv := hid hv
        go_wp2_with fail
        refine (sameInts_any _ No_4.out.at_ Nw_4.out.at_ (by omega) (by omega)).mono ?_
        rw [sameB_selfR]
        rintro e u5 ⟨rfl, hq⟩
        have hb_5 := hid (hq.below u4.heap.size)
        have Kr_5 := hid (Kr_4.out.step hb_5.out)
        have Lr_5 := hid (Lr_4.out.step hb_5.out)
        have No_5 := hid (No_4.out.step hb_5.out)
        have Nw_5 := hid (Nw_4.out.step hb_5.out)
        have B_5 := hid (B_4.out.trans (hb_5.out.mono (by omega)))
        have z_5 : u4.heap.size ≤ u5.heap.size := hb_5.out.size
        clear Kr_4 Lr_4 No_4 Nw_4 B_4
        clear hb_5
        clear hq
        obtain ⟨qr0, qr1, qr2⟩ := Kr_5.out.three
        go_wp2_with fail
        refine (RoundValid_spec hv.out _ (Lr_5.out.ow.rd (by omega) (by omega))).mono ?_
        rintro e u6 ⟨rfl, hb⟩
        clear qr0 qr1 qr2
        have hb_6 := hid hb
        have Kr_6 := hid (Kr_5.out.step hb_6.out)
        have Lr_6 := hid (Lr_5.out.step hb_6.out)
        have No_6 := hid (No_5.out.step hb_6.out)
        have Nw_6 := hid (Nw_5.out.step hb_6.out)
        have B_6 := hid (B_5.out.trans (hb_6.out.mono (by omega)))
        have z_6 : u5.heap.size ≤ u6.heap.size := hb_6.out.size
        clear Kr_5 Lr_5 No_5 Nw_5 B_5
        clear hb_6
        clear hb
        go_wp2_with fail
        refine (sameInts_any _ No_6.out.at_ Nw_6.out.at_ (by omega) (by omega)).mono ?_
        rw [sameB_selfR]
        rintro e u7 ⟨rfl, hq⟩
        have hb_7 := hid (hq.below u6.heap.size)
        have Kr_7 := hid (Kr_6.out.step hb_7.out)
        have Lr_7 := hid (Lr_6.out.step hb_7.out)
        have No_7 := hid (No_6.out.step hb_7.out)
        have Nw_7 := hid (Nw_6.out.step hb_7.out)
        have B_7 := hid (B_6.out.trans (hb_7.out.mono (by omega)))
        have z_7 : u6.heap.size ≤ u7.heap.size := hb_7.out.size
        clear Kr_6 Lr_6 No_6 Nw_6 B_6
        clear hb_7
        clear hq
        go_wp2
        go_ret
        exact ⟨rfl, B_7.out⟩
      | true =>
        have hsum := mis_sumM hv hM.out
        have hI0 := hid (show rvB m gs xs = true ∧ misL gs xs = M.drop 0 ∧ xs.length ≤ 6 from ⟨hv, by rw [List.drop_zero, ← hM.out, misR_yes hv], by omega⟩)
        clear hsum
        replace hv := hid hv
        go_wp2_with fail
        refine (sameInts_any _ No_4.out.at_ Nw_4.out.at_ (by omega) (by omega)).mono ?_
        rw [sameB_selfR]
        rintro e u5 ⟨rfl, hq⟩
        have hb_5 := hid (hq.below u4.heap.size)
        have Kr_5 := hid (Kr_4.out.step hb_5.out)
        have Lr_5 := hid (Lr_4.out.step hb_5.out)
        have No_5 := hid (No_4.out.step hb_5.out)
        have Nw_5 := hid (Nw_4.out.step hb_5.out)
        have B_5 := hid (B_4.out.trans (hb_5.out.mono (by omega)))
        have z_5 : u4.heap.size ≤ u5.heap.size := hb_5.out.size
        clear Kr_4 Lr_4 No_4 Nw_4 B_4
        clear hb_5
        clear hq
        clear Nw_5
        obtain ⟨qr0, qr1, qr2⟩ := Kr_5.out.three
        go_wp2_with fail
        refine (RoundValid_spec hv.out _ (Lr_5.out.ow.rd (by omega) (by omega))).mono ?_
        rintro e u6 ⟨rfl, hb⟩
        clear qr0 qr1 qr2
        have hb_6 := hid hb
        have Kr_6 := hid (Kr_5.out.step hb_6.out)
        have Lr_6 := hid (Lr_5.out.step hb_6.out)
        have No_6 := hid (No_5.out.step hb_6.out)
        have B_6 := hid (B_5.out.trans (hb_6.out.mono (by omega)))
        have z_6 : u5.heap.size ≤ u6.heap.size := hb_6.out.size
        clear Kr_5 Lr_5 No_5 B_5
        clear hb_6
        clear hb
        obtain ⟨qr0, qr1, qr2⟩ := Kr_6.out.three
        go_upto_region 9 with (fail)
        obtain ⟨u7, hu⟩ : ∃ W, (u6.alloc (.cells #[.int .i64 m, .slice A1 gs.length c1, .slice A2 xs.length c2] 28)) = W := ⟨_, rfl⟩
        rw [hu]
        have hb : Below u6.heap.size u6 u7 := by rw [← hu]; exact below1 _ _
        have hcy : Cs u7 (u6.heap.size) 28 #[.int .i64 m, .slice A1 gs.length c1, .slice A2 xs.length c2] := by rw [← hu]; exact Cs.new _ _ _
        clear hu
        have hb_7 := hid hb
        have Kr_7 := hid (Kr_6.out.step hb_7.out)
        have Lr_7 := hid (Lr_6.out.step hb_7.out)
        have No_7 := hid (No_6.out.step hb_7.out)
        have B_7 := hid (B_6.out.trans (hb_7.out.mono (by omega)))
        have z_7 : u6.heap.size ≤ u7.heap.size := hb_7.out.size
        clear Kr_6 Lr_6 No_6 B_6
        clear hb_7
        clear hb
        have Ky_7 := hid hcy
        have yy_7 : u6.heap.size < u7.heap.size := hcy.lt
        clear hcy
        clear qr0 qr1 qr2
        obtain ⟨b8, hb8⟩ : ∃ b, u6.heap.size = b := ⟨_, rfl⟩
        have hyl : b8 < u7.heap.size := by omega
        rw [hb8] at Ky_7 ⊢
        go_wp2_with fail
        go_loopw [9] (fun v wr => ∃ (k : Nat) (A : Option Addr) (c : Nat) (E : Option Addr) (e lo hi : Nat) (ys : List St), k ≤ M.length ∧ v = .int .i64 k ∧ Hid (Cs wr b8 28 #[.int .i64 m, .slice A gs.length c, .slice E ys.length e]) ∧ Hid (Lr wr lo hi A gs.length c E ys.length e gs ys) ∧ Hid (rvB m gs ys = true ∧ misL gs ys = M.drop k ∧ ys.length ≤ 6) ∧ Hid (Kp (fun b => b8 ≤ b ∧ b < b8 + 1) u7 wr)) (fun v _ => M.length - (intOf v).toNat)
        case atStart => exact ⟨0, A1, c1, A2, c2, _, _, xs, by omega, rfl, Ky_7, Lr_7, hI0, hid (Kp.refl _ _)⟩
        case round =>
          obtain ⟨k, A, c, E, e, lo, hi, ys, hk, rfl, hY, hL, hI, hK⟩ := hrel
          have hsz := hK.out.size
          have hbl := hY.out.lt
          have hy6 := hI.out.2.2
          have B_r := hid (B_7.out.trans (hK.out.base (by omega) (fun b (h : b8 ≤ b ∧ b < b8 + 1) => by omega)))
          have Kr_r := hid (Kr_7.out.kp hK.out (fun (h : b8 ≤ u1.heap.size ∧ u1.heap.size < b8 + 1) => by omega))
          have Lr_r := hid (Lr_7.out.kp hK.out (fun b h1 h2 (h3 : b8 ≤ b ∧ b < b8 + 1) => by omega))
          have No_r := hid (No_7.out.kp hK.out (fun b h1 h2 (h3 : b8 ≤ b ∧ b < b8 + 1) => by omega))
          obtain ⟨y0, y1, y2⟩ := hY.out.three
          by_cases hlt : k < M.length
          · obtain ⟨ad, z, rfl, hz, hc⟩ := RdI.at' No_r.out.at_ hlt
            have i0 : (0 : Int) ≤ (k : Int) := by omega
            have i1 : (k : Int) < (M.length : Int) := by omega
            have i5 : (0 : Int) ≤ (len2 : Int) + (k : Int) := by omega
            obtain ⟨ys', hA, hI'⟩ := comp_step (t := IntKind.i64.wrap (1 + (IntKind.i64.wrap ((len2 : Int) + (k : Int))).tmod 9)) hI.out hlt hz.out (time_ok len2 k (by omega) (by omega)) hl1
            replace hA := hid hA
            replace hI' := hid hI'
            have hy6' := hI'.out.2.2
            have hcH := hid hc
            clear hz
            go_upto_region 12 with (fail)
            go_cut [10, 11] (fun v q wx => CutA wr wx m gs ys' true v q)
            case first =>
              have KA : Hid (∀ X, Below wr.heap.size wr X → (X.cell? ⟨b8, 0, none⟩ = some (.int .i64 m) ∧ X.cell? ⟨b8, 1, none⟩ = some (.slice A gs.length c) ∧ X.cell? ⟨b8, 2, none⟩ = some (.slice E ys.length e)) ∧ X.cell? (ad.add k) = some (.int .i64 z)) := hid (fun X h => ⟨(hY.out.step h).three, (h.cell (World.block_lt_of_cell? wr _ hcH.out)).trans hcH.out⟩)
              have D0 := hid (show Below wr.heap.size wr wr.drew from (Below.refl _ _).drew)
              have DZ := hid (show Below wr.heap.size wr (wr.alloc (.cells #[.int .i64 0, .slice none 0 0, .slice none 0 0] 28)).drew from (below1 _ _).drew)
              have CZ := hid (show Cs (wr.alloc (.cells #[.int .i64 0, .slice none 0 0, .slice none 0 0] 28)).drew wr.heap.size 28 #[.int .i64 0, .slice none 0 0, .slice none 0 0] from Cs.new wr _ _)
              have L0 := hid (hL.out.step D0.out)
              have LZ := hid (hL.out.step DZ.out)
              have zb : wr.heap.size ≤ wr.heap.size := Nat.le_refl _
              clear hc y0 y1 y2
              go_region_held3 (fun w' => (w'.cell? ⟨b8, 0, none⟩ = some (.int .i64 m) ∧ w'.cell? ⟨b8, 1, none⟩ = some (.slice A gs.length c) ∧ w'.cell? ⟨b8, 2, none⟩ = some (.slice E ys.length e)) ∧ w'.cell? (ad.add k) = some (.int .i64 z))
                (first | with_reducible exact KA.out _ D0.out | with_reducible exact KA.out _ DZ.out | with_reducible exact KA.out _ D3.out | with_reducible exact KA.out _ (D3.out.alloc D3.out.size _) | with_reducible exact KA.out _ (((D3.out.setCell (p := ⟨_, 0, none⟩) zb _).setCell (p := ⟨_, 1, none⟩) zb _).setCell (p := ⟨_, 2, none⟩) zb _))
                (first | (go_at_call 20; (with_reducible refine (RoundAdd_implE hA.out _ (LZ.out.ow.rd (by omega) (by omega))).mono ?_); rintro e9 X3 ⟨E1, f1, E2, f2, rfl, o3, hb3⟩; have z3 := hid (CZ.out.step hb3); have zlt := CZ.out.lt; have D3 := hid (DZ.out.trans (hb3.mono DZ.out.size)); have o3 := hid o3; obtain ⟨zc0, zc1, zc2⟩ := z3.out.three; obtain ⟨zf0, zf1, zf2⟩ := z3.out.free3; clear hb3) | (go_at_call 20; (with_reducible refine (RoundAdd_implE hA.out _ (L0.out.ow.rd (by omega) (by omega))).mono ?_); rintro e9 X3 ⟨E1, f1, E2, f2, rfl, o3, hb3⟩; have D3 := hid (D0.out.trans (hb3.mono D0.out.size)); have o3 := hid o3; have hs3 := D0.out.size; clear hb3))
              all_goals
                go_wp2
                go_meet
                first
                  | exact CutA.old D3.out z3.out zb zlt o3.out
                  | exact CutA.fresh D3.out hs3 o3.out
            case rest =>
              obtain ⟨bn, An, cn, En, en, rfl, rfl, hb, hbn, hcn, ho⟩ := hcut
              have hYc := hid (hY.out.step hb.out)
              have hKc := hid (hK.out.below_ hb.out)
              have hsc := hb.out.size
              have Ln := hid (Lr.of ho.out)
              clear y0 y1 y2 hc
              obtain ⟨y0, y1, y2⟩ := hYc.out.three
              obtain ⟨f0, f1, f2⟩ := hYc.out.free3
              obtain ⟨n0, n1, n2⟩ := hcn.out.three
              have hYn := hid (hYc.out.set3 (.int .i64 m) (.slice An gs.length cn) (.slice En ys'.length en))
              have hKn := hid (hKc.out.set3 (b := b8) ⟨Nat.le_refl _, Nat.lt_succ_self _⟩ (.int .i64 m) (.slice An gs.length cn) (.slice En ys'.length en))
              have hLn := hid (Ln.out.kp ((Kp.refl (fun b => b8 ≤ b ∧ b < b8 + 1) wc).set3 (b := b8) ⟨Nat.le_refl _, Nat.lt_succ_self _⟩ (.int .i64 m) (.slice An gs.length cn) (.slice En ys'.length en)) (fun b h1 h2 (h3 : b8 ≤ b ∧ b < b8 + 1) => by omega))
              clear hYc hKc Ln hcn ho
              go_wp2
              go_roundw
              case rel => exact ⟨k + 1, An, cn, En, en, _, _, ys', by omega, by go_num, hYn, hLn, hI', hKn⟩
              case measure => simp [intOf]; omega
          · have hke : k = M.length := by omega
            have hI2 : rvB m gs ys = true ∧ misL gs ys = [] := ⟨hI.out.1, by rw [hI.out.2.1, hke, List.drop_length]⟩
            obtain ⟨ft, fg, hF, hO, hfg⟩ := comp_end hI2
            replace hF := hid hF
            replace hO := hid hO
            replace hfg := hid hfg
            clear hI2 y0 y1 y2
            obtain ⟨u8, rfl⟩ : ∃ W, W = wr := ⟨_, rfl⟩
            have Kr_8 := Kr_r
            have Lr_8 := Lr_r
            have Ky_8 := hY
            have Ly_8 := hL
            have B_8 := B_r
            have z_8 : u7.heap.size ≤ u8.heap.size := hsz
            clear Kr_7 Ky_7 Lr_7 No_7 B_7 Kr_r Lr_r No_r B_r hY hL
            obtain ⟨qy0, qy1, qy2⟩ := Ky_8.out.three
            go_wp2_with fail
            refine (RoundFinal_impl hF.out hO.out _ (Ly_8.out.ow.rd (by omega) (by omega))).mono ?_
            rintro e u9 ⟨rfl, hb⟩
            clear qy0 qy1 qy2
            have hb_9 := hid hb
            have Kr_9 := hid (Kr_8.out.step hb_9.out)
            have Ky_9 := hid (Ky_8.out.step hb_9.out)
            have Lr_9 := hid (Lr_8.out.step hb_9.out)
            have Ly_9 := hid (Ly_8.out.step hb_9.out)
            have B_9 := hid (B_8.out.trans (hb_9.out.mono (by omega)))
            have z_9 : u8.heap.size ≤ u9.heap.size := hb_9.out.size
            clear Kr_8 Ky_8 Lr_8 Ly_8 B_8
            clear hb_9
            clear hb
            go_upto_region 17 with (fail)
            obtain ⟨u10, hu⟩ : ∃ W, (u9.alloc (.cells #[.int .i64 ft, .int .i64 fg] 33)) = W := ⟨_, rfl⟩
            rw [hu]
            have hb : Below u9.heap.size u9 u10 := by rw [← hu]; exact below1 _ _
            have hcf : Cs u10 (u9.heap.size) 33 #[.int .i64 ft, .int .i64 fg] := by rw [← hu]; exact Cs.new _ _ _
            clear hu
            have hb_10 := hid hb
            have Kr_10 := hid (Kr_9.out.step hb_10.out)
            have Ky_10 := hid (Ky_9.out.step hb_10.out)
            have Lr_10 := hid (Lr_9.out.step hb_10.out)
            have Ly_10 := hid (Ly_9.out.step hb_10.out)
            have B_10 := hid (B_9.out.trans (hb_10.out.mono (by omega)))
            have z_10 : u9.heap.size ≤ u10.heap.size := hb_10.out.size
            clear Kr_9 Ky_9 Lr_9 Ly_9 B_9
            clear hb_10
            clear hb
            have Kf_10 := hid hcf
            have yf_10 : u9.heap.size < u10.heap.size := hcf.lt
            clear hcf
            obtain ⟨qr0, qr1, qr2⟩ := Kr_10.out.three
            obtain ⟨qf0, qf1, -, -⟩ := Kf_10.out.two
            go_wp2_with fail
            refine (hasInt_asR hfg.out _ Lr_10.out.r1 (by omega)).mono ?_
            rintro e9 w9 ⟨rfl, rfl⟩
            go_wp2
            go_ret
            exact ⟨rfl, B_10.out⟩

theorem lawRoundComplete {a : Option Addr} {len cap : Nat} {zs : List Int} {a2 : Option Addr} {len2 cap2 : Nat} {ys : List Int} (w : World) (h : RowIs .u8 w a len cap zs) (g : RowIs .u8 w a2 len2 cap2 ys) :
    Calls Try.prog 10 #[.slice a len cap, .slice a2 len2 cap2] w fun e w' => e = .returned (.bool true) ∧ Below w.heap.size w w' :=
  lawRoundComplete_at w w h g (Below.refl _ _) (Nat.le_refl _)
end Go.Proofs.Ytccggcdjajehnaa
