/-
  The walks of the exact laws of TxnApply: the law returns true and writes nothing that was there. No condition.
-/
import Derived.Test.YthnkilacknoklaaSvB
import Derived.Test.YthnkilacknoklaaSpE
import Derived.Test.YthnkilacknoklaaSvC
import Derived.Deep.CutBlock
import Derived.Deep.RegionLaw
import Derived.Deep.RegionHeld3
import Derived.Deep.DeepCutAuto
namespace Go.Proofs.Ythnkilacknoklaa
open Go.RowKit
set_option linter.unusedVariables false
set_option linter.unusedSimpArgs false


section
variable {A A1 A2 : Option Addr} {n c n1 c1 n2 c2 : Nat} {gs zs Z G : List Int} {xs : List (Int × Int)} {m : Int} {R ok : Bool}
/-- a new slice and a bool -/
def NewB (w : World) (Z : List Int) (ok : Bool) (e : Ending) (w' : World) : Prop := ∃ A c, e = .returned (.tuple #[.slice A Z.length c, .bool ok]) ∧ OwI w' w.heap.size (.slice A Z.length c) Z ∧ Below w.heap.size w w'

theorem TxnApply_sE (hZ : appS zs ⟨gs, m, xs⟩ = Z) (hO : appB zs ⟨gs, m, xs⟩ = ok) (w : World) (h0 : RdI w w.heap.size A n zs) (hn : n < 1099511627776) (h1 : RdI w w.heap.size A1 n1 gs) (h2 : RdP w A2 n2 xs) (l1 : n1 < 1099511627776) (l2 : n2 < 1099511627776) :
    Calls Try.prog 24 #[.slice A n c, txV (.slice A1 n1 c1) m (.slice A2 n2 c2)] w (NewB w Z ok) := by
  subst hZ; subst hO
  refine (TxnApply_spec (t := ⟨gs, m, xs⟩) w h0 hn ⟨h1, h2, l1, l2⟩).mono ?_
  rintro e w' ⟨v, rfl, ho, hb⟩
  obtain ⟨A, c, rfl, -⟩ := ho.form
  exact ⟨A, c, rfl, ho, hb⟩

theorem TxnApply_iE (hZ : appS zs ⟨gs, m, xs⟩ = Z) (hO : appB zs ⟨gs, m, xs⟩ = ok) (w : World) (h0 : RdI w w.heap.size A n zs) (hn : n < 1099511627776) (h1 : RdI w w.heap.size A1 n1 gs) (h2 : RdP w A2 n2 xs) (l1 : n1 < 1099511627776) (l2 : n2 < 1099511627776) :
    Calls Try.prog 25 #[.slice A n c, txV (.slice A1 n1 c1) m (.slice A2 n2 c2)] w (NewB w Z ok) := by
  subst hZ; subst hO
  refine (TxnApply_impl (t := ⟨gs, m, xs⟩) w h0 hn ⟨h1, h2, l1, l2⟩).mono ?_
  rintro e w' ⟨v, rfl, ho, hb⟩
  obtain ⟨A, c, rfl, -⟩ := ho.form
  exact ⟨A, c, rfl, ho, hb⟩
end

theorem appS_len {zs Z : List Int} {t : Tx} (h : appS zs t = Z) : Z.length ≤ 15 := by
  rw [← h]
  unfold appS
  split
  · rw [tab_len]; exact Nat.le_refl _
  · exact Nat.zero_le _

def CutP (u wx : World) (Z : List Int) (ok : Bool) (v q : Value) : Prop :=
  ∃ (A : Option Addr) (c : Nat), v = .slice A Z.length c ∧ q = .bool ok ∧ Hid (Below u.heap.size u wx) ∧ Hid (OwI wx u.heap.size (.slice A Z.length c) Z)

set_option maxRecDepth 100000 in
set_option maxHeartbeats 16000000 in
theorem exTxnApply {l c0 n c m d : Nat} {A0 A B : Option Addr} {zs gs : List Int} {xs : List (Int × Int)} (i : Int) (w : World) (h0 : RdI w w.heap.size A0 l zs) (hl : l ≤ maxLen) (h1 : RdI w w.heap.size A n gs) (hn : n ≤ maxLen) (h2 : RdPA w B m xs) (hm : m ≤ maxLen) :
    Calls Try.prog 6 #[.slice A0 l c0, txV (.slice A n c) i (.slice B m d)] w fun e w' => e = .returned (.bool true) ∧ Below w.heap.size w w' := by
  unfold maxLen at hl hn hm
  obtain rfl := h0.len
  obtain rfl := h1.len
  obtain rfl := h2.1
  have hx0 := hid h0
  have hx1 := hid h1
  have hx2 := hid h2
  clear h0 h1 h2
  obtain ⟨u0, hu0⟩ : ∃ W, w.alloc (.cells #[.slice A gs.length c, .int .i64 i, .slice B xs.length d] 28) = W := ⟨_, rfl⟩
  have B_0 := hid (show Below w.heap.size w u0 by rw [← hu0]; exact below1 _ _)
  have Ka_0 := hid (show Cs u0 w.heap.size 28 #[.slice A gs.length c, .int .i64 i, .slice B xs.length d] by rw [← hu0]; exact Cs.new _ _ _)
  have ya_0 : w.heap.size < u0.heap.size := Ka_0.out.lt
  replace hu0 := hid hu0
  by_cases hbz : zs.length ≤ 1048576
  · have hgz : ¬ ((zs.length : Int) > 1048576) := by omega
    have hn0 : zs.length < 1099511627776 := by omega
    by_cases hbig : gs.length + xs.length ≤ 1048576
    · have hz : (if gs.length + xs.length ≤ 1048576 then 1048576 - (gs.length : Int) - (xs.length : Int) else -1) = 1048576 - (gs.length : Int) - (xs.length : Int) := if_pos hbig
      have hnn : gs.length < 1099511627776 := by omega
      have hmm : xs.length < 1099511627776 := by omega
      have gz : ¬ (1048576 - (gs.length : Int) - (xs.length : Int) < 0) := by omega
      replace hz := hid hz
      obtain ⟨Z, hZ⟩ : ∃ Z, appS zs ⟨gs, i, xs⟩ = Z := ⟨_, rfl⟩
      obtain ⟨ok, hO⟩ : ∃ ok, appB zs ⟨gs, i, xs⟩ = ok := ⟨_, rfl⟩
      have hZl := appS_len hZ
      replace hZ := hid hZ
      replace hO := hid hO
      go_enter Try.func6, Try.ntmps6
      go_upto_region 1 with (fail)
      rw [hu0.out]
      obtain ⟨qa0, qa1, qa2⟩ := Ka_0.out.tri
      go_wp2_with fail
      refine (szTxn_any i _ (by omega) (by omega) hz.out).mono ?_
      rintro e u1 ⟨rfl, hb⟩
      clear qa0 qa1 qa2
      have hb_1 := hid hb
      have Ka_1 := hid (Ka_0.out.step hb_1.out)
      have B_1 := hid (B_0.out.trans (hb_1.out.mono (by omega)))
      have z_1 : u0.heap.size ≤ u1.heap.size := hb_1.out.size
      clear Ka_0 B_0
      clear hb_1
      clear hb
      have hbb : (ok != ok) = false := by cases ok <;> rfl
      go_upto_region 7 with (fail)
      go_cut [6, 7] (fun v q wx => CutP u1 wx Z ok v q)
      case first =>
        have KA : Hid (∀ X, Below u1.heap.size u1 X → X.cell? ⟨w.heap.size, 0, none⟩ = some (.slice A gs.length c) ∧ X.cell? ⟨w.heap.size, 1, none⟩ = some (.int .i64 i) ∧ X.cell? ⟨w.heap.size, 2, none⟩ = some (.slice B xs.length d)) := hid (fun X h => (Ka_1.out.step h).tri)
        have D0 := hid (show Below u1.heap.size u1 u1.drew from (Below.refl _ _).drew)
        have B0 := hid (B_1.out.trans (D0.out.mono (by omega)))
        go_region_held3 (fun w' => w'.cell? ⟨w.heap.size, 0, none⟩ = some (.slice A gs.length c) ∧ w'.cell? ⟨w.heap.size, 1, none⟩ = some (.int .i64 i) ∧ w'.cell? ⟨w.heap.size, 2, none⟩ = some (.slice B xs.length d))
          (first | with_reducible exact KA.out _ D0.out | with_reducible exact KA.out _ D1.out | with_reducible exact KA.out _ D2.out | with_reducible exact KA.out _ E1.out | with_reducible exact KA.out _ E2.out | with_reducible exact KA.out _ D3.out | with_reducible exact KA.out _ E3.out)
          (first | (go_at_call 11; (with_reducible refine (toIntS_any _ ((Reads.below hx0.out B0.out).more B0.out.size) hn0).mono ?_); rintro e X1 ⟨vi, rfl, oi, hb⟩; obtain ⟨Ai, ci, rfl, -⟩ := oi.rd (Nat.le_refl _); have D1 := hid (D0.out.trans (hb.mono D0.out.size)); have C1 := hid (B0.out.trans (hb.mono B0.out.size)); have N1 := hid (Lv.of oi); clear oi hb) | (go_at_call 16; (with_reducible refine (toTxn_any i _ ((Reads.below hx1.out C1.out).more C1.out.size) (hx2.out.below C1.out) hnn hmm).mono ?_); rintro e X2 ⟨At, ct, Bt, dt, rfl, ot, hb⟩; have D2 := hid (D1.out.trans (hb.mono D1.out.size)); have N2 := hid (N1.out.step hb); have L2 := hid (Lt.of ot); clear ot hb) | (go_at_call 16; (with_reducible refine (toTxn_any i _ ((Reads.below hx1.out B0.out).more B0.out.size) (hx2.out.below B0.out) hnn hmm).mono ?_); rintro e Y1 ⟨Ay, cy, By, dy, rfl, oy, hb⟩; have E1 := hid (D0.out.trans (hb.mono D0.out.size)); have F1 := hid (B0.out.trans (hb.mono B0.out.size)); have M1 := hid (Lt.of oy); clear oy hb) | (go_at_call 11; (with_reducible refine (toIntS_any _ ((Reads.below hx0.out F1.out).more F1.out.size) hn0).mono ?_); rintro e Y2 ⟨vj, rfl, oj, hb⟩; obtain ⟨Aj, cj, rfl, -⟩ := oj.rd (Nat.le_refl _); have E2 := hid (E1.out.trans (hb.mono E1.out.size)); have M2 := hid (M1.out.step hb); have Q2 := hid (Lv.of oj); clear oj hb) | (go_at_call 24; (with_reducible refine (TxnApply_sE hZ.out hO.out _ N2.out.at_ hn0 L2.out.r1 L2.out.r2 hnn hmm).mono ?_); rintro e X3 ⟨A9, c9, rfl, o9, hb⟩; have D3 := hid (D2.out.trans (hb.mono D2.out.size)); have P3 := hid (o9.more D2.out.size); clear o9 hb) | (go_at_call 24; (with_reducible refine (TxnApply_sE hZ.out hO.out _ Q2.out.at_ hn0 M2.out.r1 M2.out.r2 hnn hmm).mono ?_); rintro e X3 ⟨A9, c9, rfl, o9, hb⟩; have E3 := hid (E2.out.trans (hb.mono E2.out.size)); have P3 := hid (o9.more E2.out.size); clear o9 hb))
        all_goals
          go_wp2
          go_meet
          first
            | exact ⟨_, _, rfl, rfl, D3, P3⟩
            | exact ⟨_, _, rfl, rfl, E3, P3⟩
      case rest =>
        obtain ⟨At, ct, rfl, rfl, hb, ho⟩ := hcut
        obtain ⟨u2, rfl⟩ : ∃ W, W = wc := ⟨_, rfl⟩
        have hb_2 := hid hb.out
        have Ka_2 := hid (Ka_1.out.step hb_2.out)
        have B_2 := hid (B_1.out.trans (hb_2.out.mono (by omega)))
        have z_2 : u1.heap.size ≤ u2.heap.size := hb_2.out.size
        clear Ka_1 B_1
        clear hb_2
        clear hb
        have o_ := ho.out
        clear ho
        have Nt_2 := hid (Lv.ofI o_)
        clear o_
        go_wp2_with fail
        refine (toIntS_any _ ((Reads.below hx0.out B_2.out).more B_2.out.size) hn0).mono ?_
        rintro e u3 ⟨vx, rfl, ox, hb⟩
        obtain ⟨Ax, cx, rfl, -⟩ := ox.rd (Nat.le_refl _)
        have hb_3 := hid hb
        have Ka_3 := hid (Ka_2.out.step hb_3.out)
        have Nt_3 := hid (Nt_2.out.step hb_3.out)
        have B_3 := hid (B_2.out.trans (hb_3.out.mono (by omega)))
        have z_3 : u2.heap.size ≤ u3.heap.size := hb_3.out.size
        clear Ka_2 Nt_2 B_2
        clear hb_3
        clear hb
        have Nx_3 := hid (Lv.of ox)
        clear ox
        obtain ⟨qa0, qa1, qa2⟩ := Ka_3.out.tri
        go_wp2_with fail
        refine (toTxn_any i _ ((Reads.below hx1.out B_3.out).more B_3.out.size) (hx2.out.below B_3.out) hnn hmm).mono ?_
        rintro e u4 ⟨Aq, cq, Bq, dq, rfl, oq, hb⟩
        clear qa0 qa1 qa2
        have hb_4 := hid hb
        have Ka_4 := hid (Ka_3.out.step hb_4.out)
        have Nt_4 := hid (Nt_3.out.step hb_4.out)
        have Nx_4 := hid (Nx_3.out.step hb_4.out)
        have B_4 := hid (B_3.out.trans (hb_4.out.mono (by omega)))
        have z_4 : u3.heap.size ≤ u4.heap.size := hb_4.out.size
        clear Ka_3 Nt_3 Nx_3 B_3
        clear hb_4
        clear hb
        have Lq_4 := hid (Lt.of oq)
        clear oq
        go_upto_region 10 with (fail)
        obtain ⟨u5, hu⟩ : ∃ W, (u4.alloc (.cells #[.slice Aq gs.length cq, .int .i64 i, .slice Bq xs.length dq] 33)) = W := ⟨_, rfl⟩
        rw [hu]
        have hb : Below u4.heap.size u4 u5 := by rw [← hu]; exact below1 _ _
        have hcx : Cs u5 (u4.heap.size) 33 #[.slice Aq gs.length cq, .int .i64 i, .slice Bq xs.length dq] := by rw [← hu]; exact Cs.new _ _ _
        clear hu
        have hb_5 := hid hb
        have Ka_5 := hid (Ka_4.out.step hb_5.out)
        have Lq_5 := hid (Lq_4.out.step hb_5.out)
        have Nt_5 := hid (Nt_4.out.step hb_5.out)
        have Nx_5 := hid (Nx_4.out.step hb_5.out)
        have B_5 := hid (B_4.out.trans (hb_5.out.mono (by omega)))
        have z_5 : u4.heap.size ≤ u5.heap.size := hb_5.out.size
        clear Ka_4 Lq_4 Nt_4 Nx_4 B_4
        clear hb_5
        clear hb
        have Kx_5 := hid hcx
        have yx_5 : u4.heap.size < u5.heap.size := hcx.lt
        clear hcx
        have Lx_5 := Lq_5
        clear Lq_5
        obtain ⟨qx0, qx1, qx2⟩ := Kx_5.out.tri
        go_wp2_with fail
        refine (TxnApply_iE hZ.out hO.out _ Nx_5.out.at_ hn0 Lx_5.out.r1 Lx_5.out.r2 (by omega) (by omega)).mono ?_
        rintro e u6 ⟨Ag, cg, rfl, og, hb⟩
        clear qx0 qx1 qx2
        have hb_6 := hid hb
        have Ka_6 := hid (Ka_5.out.step hb_6.out)
        have Kx_6 := hid (Kx_5.out.step hb_6.out)
        have Lx_6 := hid (Lx_5.out.step hb_6.out)
        have Nt_6 := hid (Nt_5.out.step hb_6.out)
        have Nx_6 := hid (Nx_5.out.step hb_6.out)
        have B_6 := hid (B_5.out.trans (hb_6.out.mono (by omega)))
        have z_6 : u5.heap.size ≤ u6.heap.size := hb_6.out.size
        clear Ka_5 Kx_5 Lx_5 Nt_5 Nx_5 B_5
        clear hb_6
        clear hb
        have Ng_6 := hid (Lv.ofI og)
        clear og
        go_wp2_with fail
        refine (eqIntS_any _ Ng_6.out.at_ Nt_6.out.at_ (by omega) (by omega)).mono ?_
        rw [sameB_self]
        rintro e u7 ⟨rfl, hq⟩
        have hb_7 := hid (hq.below u6.heap.size)
        have Ka_7 := hid (Ka_6.out.step hb_7.out)
        have Kx_7 := hid (Kx_6.out.step hb_7.out)
        have Lx_7 := hid (Lx_6.out.step hb_7.out)
        have Nt_7 := hid (Nt_6.out.step hb_7.out)
        have Nx_7 := hid (Nx_6.out.step hb_7.out)
        have Ng_7 := hid (Ng_6.out.step hb_7.out)
        have B_7 := hid (B_6.out.trans (hb_7.out.mono (by omega)))
        have z_7 : u6.heap.size ≤ u7.heap.size := hb_7.out.size
        clear Ka_6 Kx_6 Lx_6 Nt_6 Nx_6 Ng_6 B_6
        clear hb_7
        clear hq
        go_wp2_with fail
        refine (toIntS_any _ ((Reads.below hx0.out B_7.out).more B_7.out.size) hn0).mono ?_
        rintro e u8 ⟨vy, rfl, oy, hb⟩
        obtain ⟨Ay, cy, rfl, -⟩ := oy.rd (Nat.le_refl _)
        have hb_8 := hid hb
        have Ka_8 := hid (Ka_7.out.step hb_8.out)
        have Kx_8 := hid (Kx_7.out.step hb_8.out)
        have Lx_8 := hid (Lx_7.out.step hb_8.out)
        have Nt_8 := hid (Nt_7.out.step hb_8.out)
        have Nx_8 := hid (Nx_7.out.step hb_8.out)
        have Ng_8 := hid (Ng_7.out.step hb_8.out)
        have B_8 := hid (B_7.out.trans (hb_8.out.mono (by omega)))
        have z_8 : u7.heap.size ≤ u8.heap.size := hb_8.out.size
        clear Ka_7 Kx_7 Lx_7 Nt_7 Nx_7 Ng_7 B_7
        clear hb_8
        clear hb
        have Ny_8 := hid (Lv.of oy)
        clear oy
        go_wp2_with fail
        refine (eqIntS_any _ Nx_8.out.at_ Ny_8.out.at_ (by omega) (by omega)).mono ?_
        rw [sameB_self]
        rintro e u9 ⟨rfl, hq⟩
        have hb_9 := hid (hq.below u8.heap.size)
        have Ka_9 := hid (Ka_8.out.step hb_9.out)
        have Kx_9 := hid (Kx_8.out.step hb_9.out)
        have Lx_9 := hid (Lx_8.out.step hb_9.out)
        have Nt_9 := hid (Nt_8.out.step hb_9.out)
        have Nx_9 := hid (Nx_8.out.step hb_9.out)
        have Ng_9 := hid (Ng_8.out.step hb_9.out)
        have Ny_9 := hid (Ny_8.out.step hb_9.out)
        have B_9 := hid (B_8.out.trans (hb_9.out.mono (by omega)))
        have z_9 : u8.heap.size ≤ u9.heap.size := hb_9.out.size
        clear Ka_8 Kx_8 Lx_8 Nt_8 Nx_8 Ng_8 Ny_8 B_8
        clear hb_9
        clear hq
        clear Ny_9
        have hd := hid (Below.refl u9.heap.size u9).drew
        have Ka_d := hid (Ka_9.out.step hd.out)
        have Kx_d := hid (Kx_9.out.step hd.out)
        have Lx_d := hid (Lx_9.out.step hd.out)
        have Nt_d := hid (Nt_9.out.step hd.out)
        have Nx_d := hid (Nx_9.out.step hd.out)
        have Ng_d := hid (Ng_9.out.step hd.out)
        have B_d := hid (B_9.out.trans (hd.out.mono (by omega)))
        have z_d : u9.heap.size ≤ u9.drew.heap.size := hd.out.size
        have qe0 := And.intro Kx_d.out.tri Ka_d.out.tri
        have qf0 := And.intro Kx_9.out.tri Ka_9.out.tri
        go_wp2_with fail
        go_region_held3 (fun w' => (w'.cell? ⟨u4.heap.size, 0, none⟩ = some (.slice Aq gs.length cq) ∧ w'.cell? ⟨u4.heap.size, 1, none⟩ = some (.int .i64 i) ∧ w'.cell? ⟨u4.heap.size, 2, none⟩ = some (.slice Bq xs.length dq)) ∧ w'.cell? ⟨w.heap.size, 0, none⟩ = some (.slice A gs.length c) ∧ w'.cell? ⟨w.heap.size, 1, none⟩ = some (.int .i64 i) ∧ w'.cell? ⟨w.heap.size, 2, none⟩ = some (.slice B xs.length d))
          (first | with_reducible exact qe0 | with_reducible exact qe1 | with_reducible exact qe2 | with_reducible exact qf0 | go_keep)
          (first | (go_at_call 16; (refine (toTxn_any i _ ((Reads.below hx1.out B_d.out).more B_d.out.size) (hx2.out.below B_d.out) hnn hmm).mono ?_); rintro e ud ⟨Ad, cd, Bd, dd, rfl, od, hb⟩; have Ka_e := hid (Ka_d.out.step hb); have Kx_e := hid (Kx_d.out.step hb); have Lx_e := hid (Lx_d.out.step hb); have Nt_e := hid (Nt_d.out.step hb); have Nx_e := hid (Nx_d.out.step hb); have Ng_e := hid (Ng_d.out.step hb); have B_e := hid (B_d.out.trans (hb.mono (by omega))); have z_e := hb.size; have Ld_e := hid (Lt.of od); have qe1 := And.intro Kx_e.out.tri Ka_e.out.tri; clear hb od) | (go_at_call 18; (refine (eqTxn_same i _ Lx_e.out.r1 Lx_e.out.r2 Ld_e.out.r1 Ld_e.out.r2 (by omega) (by omega)).mono ?_); rintro e u10 ⟨rfl, hb⟩; have Ka_10 := hid (Ka_e.out.step hb); have Kx_10 := hid (Kx_e.out.step hb); have Lx_10 := hid (Lx_e.out.step hb); have Nt_10 := hid (Nt_e.out.step hb); have Nx_10 := hid (Nx_e.out.step hb); have Ng_10 := hid (Ng_e.out.step hb); have B_10 := hid (B_e.out.trans (hb.mono (by omega))); have z_10 : u9.heap.size ≤ u10.heap.size := Nat.le_trans z_d (Nat.le_trans z_e hb.size); have qe2 := And.intro Kx_10.out.tri Ka_10.out.tri; clear hb))
        clear qe0 qf0 qe1 qe2 hd B_d B_e Ld_e z_d z_e
        clear Ka_d Kx_d Lx_d Nt_d Nx_d Ng_d
        clear Ka_e Kx_e Lx_e Nt_e Nx_e Ng_e
        clear Ka_9 Kx_9 Lx_9 Nt_9 Nx_9 Ng_9 B_9
        go_wp2_with fail
        refine (markIntS_lv 1 _ Nx_10.out (by omega) (by omega) (by omega)).mono ?_
        rintro e u11 ⟨rfl, hL, hG, -⟩
        have hK : Kp (fun b => u2.heap.size ≤ b ∧ b < u3.heap.size) u10 u11 := ((Kp.refl (fun b => (Value.slice Ax zs.length cx).ownBlock = some b) _).grown hG (fun j e => .inr e)).mono (fun b hb => ⟨(Nx_10.out.1.1.lt b hb).1, Nx_10.out.1.2 b hb⟩)
        have hk_11 := hid hK
        have z_11 : u10.heap.size ≤ u11.heap.size := hk_11.out.size
        have Ka_11 := hid (Ka_10.out.kp hk_11.out (fun (h : u2.heap.size ≤ w.heap.size ∧ w.heap.size < u3.heap.size) => by omega))
        have Kx_11 := hid (Kx_10.out.kp hk_11.out (fun (h : u2.heap.size ≤ u4.heap.size ∧ u4.heap.size < u3.heap.size) => by omega))
        have Lx_11 := hid (Lx_10.out.kp hk_11.out (fun b h1 h2 (h3 : u2.heap.size ≤ b ∧ b < u3.heap.size) => by omega))
        have Nt_11 := hid (Nt_10.out.kp hk_11.out (fun b h1 h2 (h3 : u2.heap.size ≤ b ∧ b < u3.heap.size) => by omega))
        have Ng_11 := hid (Ng_10.out.kp hk_11.out (fun b h1 h2 (h3 : u2.heap.size ≤ b ∧ b < u3.heap.size) => by omega))
        have B_11 := hid (B_10.out.trans (hk_11.out.base (by omega) (fun b (h : u2.heap.size ≤ b ∧ b < u3.heap.size) => by omega)))
        clear Ka_10 Kx_10 Lx_10 Nt_10 Nx_10 Ng_10 B_10
        clear hk_11
        have Nx_11 := hid hL
        clear hL hG hK
        have gj : ¬ (1 + (zs.length : Int) < 0) := by omega
        obtain ⟨qx0, qx1, qx2⟩ := Kx_11.out.tri
        go_wp2_with fail
        refine (markTxn_any i (1 + (zs.length : Int)) _ Lx_11.out (by omega) (by omega) (by omega) (by omega)).mono ?_
        rintro e u12 ⟨rfl, hL, hK⟩
        clear qx0 qx1 qx2
        have hk_12 := hid hK
        have z_12 : u11.heap.size ≤ u12.heap.size := hk_12.out.size
        have Ka_12 := hid (Ka_11.out.kp hk_12.out (fun (h : u3.heap.size ≤ w.heap.size ∧ w.heap.size < u4.heap.size) => by omega))
        have Kx_12 := hid (Kx_11.out.kp hk_12.out (fun (h : u3.heap.size ≤ u4.heap.size ∧ u4.heap.size < u4.heap.size) => by omega))
        have Nt_12 := hid (Nt_11.out.kp hk_12.out (fun b h1 h2 (h3 : u3.heap.size ≤ b ∧ b < u4.heap.size) => by omega))
        have Nx_12 := hid (Nx_11.out.kp hk_12.out (fun b h1 h2 (h3 : u3.heap.size ≤ b ∧ b < u4.heap.size) => by omega))
        have Ng_12 := hid (Ng_11.out.kp hk_12.out (fun b h1 h2 (h3 : u3.heap.size ≤ b ∧ b < u4.heap.size) => by omega))
        have B_12 := hid (B_11.out.trans (hk_12.out.base (by omega) (fun b (h : u3.heap.size ≤ b ∧ b < u4.heap.size) => by omega)))
        clear Ka_11 Kx_11 Lx_11 Nt_11 Nx_11 Ng_11 B_11
        clear hk_12
        have Lx_12 := hid hL
        clear hL hK
        have gk : ¬ (1 + (zs.length : Int) + (gs.length : Int) + 2 * (xs.length : Int) < 0) := by omega
        go_wp2_with fail
        refine (eqIntS_any _ Ng_12.out.at_ Nt_12.out.at_ (by omega) (by omega)).mono ?_
        rw [sameB_self]
        rintro e u13 ⟨rfl, hq⟩
        have hb_13 := hid (hq.below u12.heap.size)
        have Ka_13 := hid (Ka_12.out.step hb_13.out)
        have Kx_13 := hid (Kx_12.out.step hb_13.out)
        have Lx_13 := hid (Lx_12.out.step hb_13.out)
        have Nt_13 := hid (Nt_12.out.step hb_13.out)
        have Nx_13 := hid (Nx_12.out.step hb_13.out)
        have Ng_13 := hid (Ng_12.out.step hb_13.out)
        have B_13 := hid (B_12.out.trans (hb_13.out.mono (by omega)))
        have z_13 : u12.heap.size ≤ u13.heap.size := hb_13.out.size
        clear Ka_12 Kx_12 Lx_12 Nt_12 Nx_12 Ng_12 B_12
        clear hb_13
        clear hq
        clear Lx_13
        clear Kx_13
        clear Nx_13
        go_wp2_with fail
        refine (markIntS_lv 1 _ Ng_13.out (by omega) (by omega) (by omega)).mono ?_
        rintro e u14 ⟨rfl, hL, hG, -⟩
        have hK : Kp (fun b => u5.heap.size ≤ b ∧ b < u6.heap.size) u13 u14 := ((Kp.refl (fun b => (Value.slice Ag Z.length cg).ownBlock = some b) _).grown hG (fun j e => .inr e)).mono (fun b hb => ⟨(Ng_13.out.1.1.lt b hb).1, Ng_13.out.1.2 b hb⟩)
        have hk_14 := hid hK
        have z_14 : u13.heap.size ≤ u14.heap.size := hk_14.out.size
        have Ka_14 := hid (Ka_13.out.kp hk_14.out (fun (h : u5.heap.size ≤ w.heap.size ∧ w.heap.size < u6.heap.size) => by omega))
        have Nt_14 := hid (Nt_13.out.kp hk_14.out (fun b h1 h2 (h3 : u5.heap.size ≤ b ∧ b < u6.heap.size) => by omega))
        have B_14 := hid (B_13.out.trans (hk_14.out.base (by omega) (fun b (h : u5.heap.size ≤ b ∧ b < u6.heap.size) => by omega)))
        clear Ka_13 Nt_13 Ng_13 B_13
        clear hk_14
        have Ng_14 := hid hL
        clear hL hG hK
        have gm : ¬ (1 + (Z.length : Int) < 0) := by omega
        go_wp2_with fail
        refine (heldIntS_any 1 _ Ng_14.out.at_ (by omega) (by omega) (by omega)).mono ?_
        rintro e w_ ⟨rfl, rfl⟩
        go_upto_region 30 with (fail)
        go_cut [15, 16] (fun v q wx => CutP u14 wx Z ok v q)
        case first =>
          have KA : Hid (∀ X, Below u14.heap.size u14 X → X.cell? ⟨w.heap.size, 0, none⟩ = some (.slice A gs.length c) ∧ X.cell? ⟨w.heap.size, 1, none⟩ = some (.int .i64 i) ∧ X.cell? ⟨w.heap.size, 2, none⟩ = some (.slice B xs.length d)) := hid (fun X h => (Ka_14.out.step h).tri)
          have D0 := hid (show Below u14.heap.size u14 u14.drew from (Below.refl _ _).drew)
          have B0 := hid (B_14.out.trans (D0.out.mono (by omega)))
          go_region_held3 (fun w' => w'.cell? ⟨w.heap.size, 0, none⟩ = some (.slice A gs.length c) ∧ w'.cell? ⟨w.heap.size, 1, none⟩ = some (.int .i64 i) ∧ w'.cell? ⟨w.heap.size, 2, none⟩ = some (.slice B xs.length d))
            (first | with_reducible exact KA.out _ D0.out | with_reducible exact KA.out _ D1.out | with_reducible exact KA.out _ D2.out | with_reducible exact KA.out _ E1.out | with_reducible exact KA.out _ E2.out | with_reducible exact KA.out _ D3.out | with_reducible exact KA.out _ E3.out)
            (first | (go_at_call 11; (with_reducible refine (toIntS_any _ ((Reads.below hx0.out B0.out).more B0.out.size) hn0).mono ?_); rintro e X1 ⟨vi, rfl, oi, hb⟩; obtain ⟨Ai, ci, rfl, -⟩ := oi.rd (Nat.le_refl _); have D1 := hid (D0.out.trans (hb.mono D0.out.size)); have C1 := hid (B0.out.trans (hb.mono B0.out.size)); have N1 := hid (Lv.of oi); clear oi hb) | (go_at_call 16; (with_reducible refine (toTxn_any i _ ((Reads.below hx1.out C1.out).more C1.out.size) (hx2.out.below C1.out) hnn hmm).mono ?_); rintro e X2 ⟨At, ct, Bt, dt, rfl, ot, hb⟩; have D2 := hid (D1.out.trans (hb.mono D1.out.size)); have N2 := hid (N1.out.step hb); have L2 := hid (Lt.of ot); clear ot hb) | (go_at_call 16; (with_reducible refine (toTxn_any i _ ((Reads.below hx1.out B0.out).more B0.out.size) (hx2.out.below B0.out) hnn hmm).mono ?_); rintro e Y1 ⟨Ay, cy, By, dy, rfl, oy, hb⟩; have E1 := hid (D0.out.trans (hb.mono D0.out.size)); have F1 := hid (B0.out.trans (hb.mono B0.out.size)); have M1 := hid (Lt.of oy); clear oy hb) | (go_at_call 11; (with_reducible refine (toIntS_any _ ((Reads.below hx0.out F1.out).more F1.out.size) hn0).mono ?_); rintro e Y2 ⟨vj, rfl, oj, hb⟩; obtain ⟨Aj, cj, rfl, -⟩ := oj.rd (Nat.le_refl _); have E2 := hid (E1.out.trans (hb.mono E1.out.size)); have M2 := hid (M1.out.step hb); have Q2 := hid (Lv.of oj); clear oj hb) | (go_at_call 25; (with_reducible refine (TxnApply_iE hZ.out hO.out _ N2.out.at_ hn0 L2.out.r1 L2.out.r2 hnn hmm).mono ?_); rintro e X3 ⟨A9, c9, rfl, o9, hb⟩; have D3 := hid (D2.out.trans (hb.mono D2.out.size)); have P3 := hid (o9.more D2.out.size); clear o9 hb) | (go_at_call 25; (with_reducible refine (TxnApply_iE hZ.out hO.out _ Q2.out.at_ hn0 M2.out.r1 M2.out.r2 hnn hmm).mono ?_); rintro e X3 ⟨A9, c9, rfl, o9, hb⟩; have E3 := hid (E2.out.trans (hb.mono E2.out.size)); have P3 := hid (o9.more E2.out.size); clear o9 hb))
          all_goals
            go_wp2
            go_meet
            first
              | exact ⟨_, _, rfl, rfl, D3, P3⟩
              | exact ⟨_, _, rfl, rfl, E3, P3⟩
        case rest =>
          obtain ⟨Ah, ch, rfl, rfl, hb, ho⟩ := hcut
          obtain ⟨u15, rfl⟩ : ∃ W, W = wc := ⟨_, rfl⟩
          have hb_15 := hid hb.out
          have Ka_15 := hid (Ka_14.out.step hb_15.out)
          have Nt_15 := hid (Nt_14.out.step hb_15.out)
          have Ng_15 := hid (Ng_14.out.step hb_15.out)
          have B_15 := hid (B_14.out.trans (hb_15.out.mono (by omega)))
          have z_15 : u14.heap.size ≤ u15.heap.size := hb_15.out.size
          clear Ka_14 Nt_14 Ng_14 B_14
          clear hb_15
          clear hb
          have o_ := ho.out
          clear ho
          have Nh_15 := hid (Lv.ofI o_)
          clear o_
          go_wp2_with fail
          refine (eqIntS_any _ Nh_15.out.at_ Nt_15.out.at_ (by omega) (by omega)).mono ?_
          rw [sameB_self]
          rintro e u16 ⟨rfl, hq⟩
          have hb_16 := hid (hq.below u15.heap.size)
          have Ka_16 := hid (Ka_15.out.step hb_16.out)
          have Nt_16 := hid (Nt_15.out.step hb_16.out)
          have Ng_16 := hid (Ng_15.out.step hb_16.out)
          have Nh_16 := hid (Nh_15.out.step hb_16.out)
          have B_16 := hid (B_15.out.trans (hb_16.out.mono (by omega)))
          have z_16 : u15.heap.size ≤ u16.heap.size := hb_16.out.size
          clear Ka_15 Nt_15 Ng_15 Nh_15 B_15
          clear hb_16
          clear hq
          go_wp2_with fail
          refine (heldIntS_any 1 _ Ng_16.out.at_ (by omega) (by omega) (by omega)).mono ?_
          rintro e w_ ⟨rfl, rfl⟩
          go_wp2
          go_ret
          exact ⟨rfl, B_16.out⟩
    · have hz : (if gs.length + xs.length ≤ 1048576 then 1048576 - (gs.length : Int) - (xs.length : Int) else -1) = -1 := if_neg hbig
      replace hz := hid hz
      obtain ⟨qa0, qa1, qa2⟩ := Ka_0.out.tri
      go_enter Try.func6, Try.ntmps6
      go_upto_region 1 with (fail)
      rw [hu0.out]
      go_wp2_with fail
      refine (szTxn_any i _ (by omega) (by omega) hz.out).mono ?_
      rintro e w1 ⟨rfl, hb⟩
      have hB := hid (B_0.out.trans (hb.mono (by omega)))
      clear hb
      go_wp2
      go_ret
      exact ⟨rfl, hB.out⟩
  · have hgz : (zs.length : Int) > 1048576 := by omega
    go_enter Try.func6, Try.ntmps6
    go_upto_region 1 with (fail)
    rw [hu0.out]
    go_wp2
    go_ret
    exact ⟨rfl, B_0.out⟩

end Go.Proofs.Ythnkilacknoklaa
