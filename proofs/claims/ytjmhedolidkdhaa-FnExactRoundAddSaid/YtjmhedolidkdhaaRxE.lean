/-
  The walks of the exact laws of RoundAdd: the law returns true and writes nothing that was there. No condition.
-/
import Derived.Test.YtjmhedolidkdhaaRxA
import Derived.Test.YtjmhedolidkdhaaRmF
import Derived.Test.YtjmhedolidkdhaaRmK
import Derived.Deep.CutBlock
import Derived.Deep.RegionLaw
import Derived.Deep.RegionHeld3
import Derived.Deep.DeepCutAuto
namespace Go.Proofs.Ytjmhedolidkdhaa
open Go.RowKit
set_option linter.unusedVariables false
set_option linter.unusedSimpArgs false

theorem adR_len {m om : Int} {gs og : List Int} {xs ox : List St} {s : St} {ok : Bool} (h : adR m gs xs s = ⟨om, og, ox, ok⟩) : og.length ≤ gs.length ∧ ox.length ≤ xs.length + 1 := by
  unfold adR at h
  split at h
  · unfold adA at h
    split at h
    · injection h with h1 h2 h3 h4
      rw [← h2, ← h3, insS_len]; exact ⟨Nat.le_refl _, Nat.le_refl _⟩
    · injection h with h1 h2 h3 h4
      rw [← h2, ← h3]; exact ⟨Nat.le_refl _, Nat.le_succ _⟩
  · injection h with h1 h2 h3 h4
    rw [← h2, ← h3]; exact ⟨Nat.zero_le _, Nat.zero_le _⟩
/-- the round and the bool that RoundAdd handed back, the round in a box of the law's own -/
def CutA (u wx : World) (om : Int) (og : List Int) (ox : List St) (ok : Bool) (v q : Value) : Prop :=
  ∃ (bx : Nat) (A1 : Option Addr) (c1 : Nat) (A2 : Option Addr) (c2 : Nat), v = .pointer (some ⟨bx, 0, none⟩) ∧ q = .bool ok ∧ Hid (Below u.heap.size u wx) ∧ u.heap.size ≤ bx ∧ Hid (Cs wx bx 25 #[.int .i64 om, .slice A1 og.length c1, .slice A2 ox.length c2]) ∧ Hid (OwR wx u.heap.size A1 og.length c1 A2 ox.length c2 og ox)

theorem CutA.fresh {u X : World} {lo : Nat} {om : Int} {og : List Int} {ox : List St} {ok : Bool} {A1 A2 : Option Addr} {c1 c2 : Nat} (D : Below u.heap.size u X) (hlo : u.heap.size ≤ lo) (ho : OwR X lo A1 og.length c1 A2 ox.length c2 og ox) :
    CutA u (X.alloc (.cells #[.int .i64 om, .slice A1 og.length c1, .slice A2 ox.length c2] 25)) om og ox ok (.pointer (some ⟨X.heap.size, 0, none⟩)) (.bool ok) :=
  ⟨_, A1, c1, A2, c2, rfl, rfl, hid (D.alloc D.size _), D.size, hid (Cs.new X _ _), hid ((ho.below (below1 X _)).more hlo)⟩

theorem CutA.old {u X : World} {lo bx : Nat} {om : Int} {og : List Int} {ox : List St} {ok : Bool} {A1 A2 : Option Addr} {c1 c2 : Nat} (D : Below u.heap.size u X) (z : Cs X bx 25 #[.int .i64 0, .slice none 0 0, .slice none 0 0]) (hb : u.heap.size ≤ bx) (hbl : bx < lo) (ho : OwR X lo A1 og.length c1 A2 ox.length c2 og ox) :
    CutA u (((X.setCell ⟨bx, 0, none⟩ (.int .i64 om)).setCell ⟨bx, 1, none⟩ (.slice A1 og.length c1)).setCell ⟨bx, 2, none⟩ (.slice A2 ox.length c2)) om og ox ok (.pointer (some ⟨bx, 0, none⟩)) (.bool ok) :=
  ⟨bx, A1, c1, A2, c2, rfl, rfl, hid (((D.setCell (p := ⟨bx, 0, none⟩) hb _).setCell (p := ⟨bx, 1, none⟩) hb _).setCell (p := ⟨bx, 2, none⟩) hb _), hb, hid (z.set3 _ _ _), hid ((((ho.setLow (p := ⟨bx, 0, none⟩) hbl _).setLow (p := ⟨bx, 1, none⟩) hbl _).setLow (p := ⟨bx, 2, none⟩) hbl _).more (by omega))⟩

theorem RoundAdd_specE {n1 c1 n2 c2 : Nat} {A1 A2 : Option Addr} {gs og : List Int} {xs ox : List St} {m t g om : Int} {ok : Bool} (hO : adR m gs xs (t, g) = ⟨om, og, ox, ok⟩) (w : World) (hr : RdR w A1 n1 A2 n2 c2 gs xs) :
    Calls Try.prog 20 #[rnV m (.slice A1 n1 c1) (.slice A2 n2 c2), two t g] w fun e w' => ∃ (B1 : Option Addr) (d1 : Nat) (B2 : Option Addr) (d2 : Nat), e = .returned (.tuple #[rnV om (.slice B1 og.length d1) (.slice B2 ox.length d2), .bool ok]) ∧ OwR w' w.heap.size B1 og.length d1 B2 ox.length d2 og ox ∧ Below w.heap.size w w' :=
  (RoundAdd_spec hO w hr).mono fun e w' h => h

theorem RoundAdd_implE {n1 c1 n2 c2 : Nat} {A1 A2 : Option Addr} {gs og : List Int} {xs ox : List St} {m t g om : Int} {ok : Bool} (hO : adR m gs xs (t, g) = ⟨om, og, ox, ok⟩) (w : World) (hr : RdR w A1 n1 A2 n2 c2 gs xs) :
    Calls Try.prog 22 #[rnV m (.slice A1 n1 c1) (.slice A2 n2 c2), two t g] w fun e w' => ∃ (B1 : Option Addr) (d1 : Nat) (B2 : Option Addr) (d2 : Nat), e = .returned (.tuple #[rnV om (.slice B1 og.length d1) (.slice B2 ox.length d2), .bool ok]) ∧ OwR w' w.heap.size B1 og.length d1 B2 ox.length d2 og ox ∧ Below w.heap.size w w' :=
  (RoundAdd_impl hO w hr).mono fun e w' h => h

set_option maxHeartbeats 2000000 in
theorem markRound_own {lo hi n1 c1 n2 c2 : Nat} {A1 A2 : Option Addr} {gs : List Int} {xs : List St} (i k0 : Int) (w : World) (h : Lr w lo hi A1 n1 c1 A2 n2 c2 gs xs) (hn1 : n1 < 1099511627776) (hn2 : n2 < 1099511627776) (hk0 : 0 ≤ k0) (hk1 : k0 < 1099511627776) :
    Calls Try.prog 14 #[rnV i (.slice A1 n1 c1) (.slice A2 n2 c2), .int .i64 k0] w fun e w' => e = .returned (.int .i64 (k0 + (n1 : Int) + 2 * (n2 : Int))) ∧ Lr w' lo hi A1 n1 c1 A2 n2 c2 (marks k0 n1) (marksS (k0 + (n1 : Int)) n2) ∧ Kp (fun b => (Value.slice A1 n1 c1).ownBlock = some b ∨ (Value.slice A2 n2 c2).ownBlock = some b) w w' := by
  have B := hid (below1 w (.cells #[.int .i64 i, .slice A1 n1 c1, .slice A2 n2 c2] 25))
  have C := hid (Cs.new w 25 #[.int .i64 i, .slice A1 n1 c1, .slice A2 n2 c2])
  have O := hid (h.ow.below B.out)
  have hbs := hid h.hb
  have hhi := h.hi
  have hlo1 := hid (fun b hb => (h.ow.og.lt b hb).1 : ∀ b, (Value.slice A1 n1 c1).ownBlock = some b → lo ≤ b)
  have hlo2 := hid (fun b hb => (h.ow.os.lt b hb).1 : ∀ b, (Value.slice A2 n2 c2).ownBlock = some b → lo ≤ b)
  have NE := hid (own_type h.ow.og h.ow.os (by decide))
  have hmz : w.heap.size < (w.alloc (.cells #[.int .i64 i, .slice A1 n1 c1, .slice A2 n2 c2] 25)).heap.size := by simp
  have LV := hid (show Lv (w.alloc (.cells #[.int .i64 i, .slice A1 n1 c1, .slice A2 n2 c2] 25)) lo hi (.slice A1 n1 c1) gs from ⟨⟨O.out.og, fun b hb => hbs.out b (.inl hb)⟩, by omega⟩)
  clear h
  go_enter Try.func14, Try.ntmps14
  go_wp2_with fail
  refine (markIntS_lv k0 _ LV.out hn1 hk0 (by omega)).mono ?_
  rintro e w1 ⟨rfl, o1, g1, s1⟩
  have K1 := hid ((Kp.refl (fun b => (Value.slice A1 n1 c1).ownBlock = some b) _).grown g1 (fun j e => .inr e))
  have C1 := hid (C.out.kp K1.out (fun e => by have := hbs.out _ (.inl e); omega))
  have O2 := hid (O.out.os.kp K1.out (fun j e h1 => NE.out j h1 e))
  have O1 := hid o1.1.1
  have L2 := hid O.out.l2
  have KK := hid ((Kp.of_below (S := fun b => (Value.slice A1 n1 c1).ownBlock = some b ∨ (Value.slice A2 n2 c2).ownBlock = some b) B.out).trans K1.out (fun j hj e => .inl e))
  obtain ⟨c0, c1', c2'⟩ := C1.out.three
  clear g1 o1 K1 C O B s1 LV
  go_wp2_with fail
  refine (markStampS_any (k0 + (n1 : Int)) _ O2.out L2.out hn2 (by omega) (by omega)).mono ?_
  rintro e w2 ⟨rfl, o2, g2, s2⟩
  have K2 := hid ((Kp.refl (fun b => (Value.slice A2 n2 c2).ownBlock = some b) _).grown g2 (fun j e => .inr e))
  have P1 := hid (O1.out.kp K2.out (fun j e h2 => NE.out j e h2))
  have KF := hid (KK.out.trans K2.out (fun j hj e => .inr e))
  have HF := hid (show Lr w2 lo hi A1 n1 c1 A2 n2 c2 (marks k0 n1) (marksS (k0 + (n1 : Int)) n2) from ⟨⟨P1.out, by show World.ownsRow _ _ _ _ _ _ _; exact o2, marks_len _ _, marksS_len _ _⟩, hbs.out, Nat.le_trans hhi KF.out.size⟩)
  clear g2 o2 K2 O1 O2 KK C1 c0 c1' c2' P1 s2
  go_wp2
  go_ret
  exact ⟨rfl, HF.out, KF.out⟩


set_option maxRecDepth 100000 in
set_option maxHeartbeats 16000000 in
theorem exRoundAdd {n c m d : Nat} {A B : Option Addr} {gs : List Int} {xs : List St} (i st sg : Int) (w : World) (h1 : RdI w w.heap.size A n gs) (hn : n ≤ maxLen) (h2 : RdA w B m xs) (hm : m ≤ maxLen) :
    Calls Try.prog 5 #[rnV i (.slice A n c) (.slice B m d), two st sg] w fun e w' => e = .returned (.bool true) ∧ Below w.heap.size w w' := by
  unfold maxLen at hn hm
  obtain rfl := h1.len
  obtain rfl := h2.1
  have hx1 := hid h1
  have hx2 := hid h2
  clear h1 h2
  obtain ⟨u0, hu0⟩ : ∃ W, (w.alloc (.cells #[.int .i64 i, .slice A gs.length c, .slice B xs.length d] 36)).alloc (.cells #[.int .i64 st, .int .i64 sg] 42) = W := ⟨_, rfl⟩
  have B_0 := hid (show Below w.heap.size w u0 by rw [← hu0]; exact below2 _ _ _)
  have Ka_0 := hid (show Cs u0 w.heap.size 36 #[.int .i64 i, .slice A gs.length c, .slice B xs.length d] by rw [← hu0]; exact (Cs.new _ _ _).alloc _)
  have Ks_0 := hid (show Cs u0 (w.heap.size + 1) 42 #[.int .i64 st, .int .i64 sg] by rw [← hu0]; exact Cs.new' _ _ _ (by simp))
  have ys_0 : w.heap.size + 1 < u0.heap.size := Ks_0.out.lt
  have ya_0 : w.heap.size < u0.heap.size := Ka_0.out.lt
  replace hu0 := hid hu0
  by_cases hbig : gs.length + xs.length ≤ 1048576
  · have hz : (if gs.length + xs.length ≤ 1048576 then 1048576 - (gs.length : Int) - (xs.length : Int) else -1) = 1048576 - (gs.length : Int) - (xs.length : Int) := if_pos hbig
    have hnn : gs.length < 1099511627776 := by omega
    have hmm : xs.length < 1099511627776 := by omega
    have gz : ¬ (1048576 - (gs.length : Int) - (xs.length : Int) < 0) := by omega
    replace hz := hid hz
    obtain ⟨om, og, ox, ok, hR⟩ : ∃ om og ox ok, adR i gs xs (st, sg) = ⟨om, og, ox, ok⟩ := ⟨_, _, _, _, rfl⟩
    have hol := (adR_len hR).1
    have hxl := (adR_len hR).2
    replace hR := hid hR
    go_enter Try.func5, Try.ntmps5
    go_upto_region 2 with (fail)
    rw [hu0.out]
    obtain ⟨qa0, qa1, qa2⟩ := Ka_0.out.three
    go_wp2_with fail
    refine (szRound_any i _ (by omega) (by omega) hz.out).mono ?_
    rintro e u1 ⟨rfl, hb⟩
    clear qa0 qa1 qa2
    have hb_1 := hid hb
    have Ka_1 := hid (Ka_0.out.step hb_1.out)
    have Ks_1 := hid (Ks_0.out.step hb_1.out)
    have B_1 := hid (B_0.out.trans (hb_1.out.mono (by omega)))
    have z_1 : u0.heap.size ≤ u1.heap.size := hb_1.out.size
    clear Ka_0 Ks_0 B_0
    clear hb_1
    clear hb
    have hbb : (ok != ok) = false := by cases ok <;> rfl
    go_upto_region 5 with (fail)
    go_cut [6, 7] (fun v q wx => CutA u1 wx om og ox ok v q)
    case first =>
      have KA : Hid (∀ X, Below u1.heap.size u1 X → (X.cell? ⟨w.heap.size, 0, none⟩ = some (.int .i64 i) ∧ X.cell? ⟨w.heap.size, 1, none⟩ = some (.slice A gs.length c) ∧ X.cell? ⟨w.heap.size, 2, none⟩ = some (.slice B xs.length d)) ∧ X.cell? ⟨(w.heap.size + 1), 0, none⟩ = some (.int .i64 st) ∧ X.cell? ⟨(w.heap.size + 1), 1, none⟩ = some (.int .i64 sg)) := hid (fun X h => ⟨(Ka_1.out.step h).three, (Ks_1.out.step h).two.1, (Ks_1.out.step h).two.2.1⟩)
      have D0 := hid (show Below u1.heap.size u1 u1.drew from (Below.refl _ _).drew)
      have DZ := hid (show Below u1.heap.size u1 (u1.alloc (.cells #[.int .i64 0, .slice none 0 0, .slice none 0 0] 25)).drew from (below1 _ _).drew)
      have CZ := hid (show Cs (u1.alloc (.cells #[.int .i64 0, .slice none 0 0, .slice none 0 0] 25)).drew u1.heap.size 25 #[.int .i64 0, .slice none 0 0, .slice none 0 0] from Cs.new u1 _ _)
      have BD := hid (B_1.out.trans (D0.out.mono (by omega)))
      have BZ := hid (B_1.out.trans (DZ.out.mono (by omega)))
      go_region_held3 (fun w' => (w'.cell? ⟨w.heap.size, 0, none⟩ = some (.int .i64 i) ∧ w'.cell? ⟨w.heap.size, 1, none⟩ = some (.slice A gs.length c) ∧ w'.cell? ⟨w.heap.size, 2, none⟩ = some (.slice B xs.length d)) ∧ w'.cell? ⟨(w.heap.size + 1), 0, none⟩ = some (.int .i64 st) ∧ w'.cell? ⟨(w.heap.size + 1), 1, none⟩ = some (.int .i64 sg))
        (first | with_reducible exact KA.out _ D0.out | with_reducible exact KA.out _ DZ.out | with_reducible exact KA.out _ D1.out | with_reducible exact KA.out _ (D1.out.alloc D1.out.size _) | with_reducible exact KA.out _ D2.out | with_reducible exact KA.out _ (D2.out.alloc D2.out.size _) | with_reducible exact KA.out _ D3.out | with_reducible exact KA.out _ (D3.out.alloc D3.out.size _) | with_reducible exact KA.out _ (((D3.out.setCell (p := ⟨_, 0, none⟩) zb _).setCell (p := ⟨_, 1, none⟩) zb _).setCell (p := ⟨_, 2, none⟩) zb _))
        (first | (go_at_call 18; (with_reducible refine (toRound_any i _ ((Reads.below hx1.out BZ.out).more BZ.out.size) (hx2.out.below BZ.out) hnn hmm).mono ?_); rintro e X1 ⟨Ap, cp, Bp, dp, rfl, o1, hb1⟩; have D1 := hid (DZ.out.trans (hb1.mono DZ.out.size)); have z1 := hid (CZ.out.step hb1); have L1 := hid (Lr.of o1); have zb : u1.heap.size ≤ u1.heap.size := Nat.le_refl _; clear o1 hb1) | (go_at_call 18; (with_reducible refine (toRound_any i _ ((Reads.below hx1.out BD.out).more BD.out.size) (hx2.out.below BD.out) hnn hmm).mono ?_); rintro e X1 ⟨Ap, cp, Bp, dp, rfl, o1, hb1⟩; have D1 := hid (D0.out.trans (hb1.mono D0.out.size)); have L1 := hid (Lr.of o1); clear o1 hb1) | (go_at_call 21; (with_reducible refine (toStamp_any _ _ _).mono ?_); rintro e X2 ⟨rfl, hb2⟩; have z2 := hid (z1.out.step hb2); have D2 := hid (D1.out.trans (hb2.mono D1.out.size)); have L2 := hid (L1.out.step hb2); clear hb2) | (go_at_call 21; (with_reducible refine (toStamp_any _ _ _).mono ?_); rintro e X2 ⟨rfl, hb2⟩; have D2 := hid ((D1.out.alloc D1.out.size (.cells #[.int .i64 0, .slice none 0 0, .slice none 0 0] 25)).trans (hb2.mono (D1.out.alloc D1.out.size (.cells #[.int .i64 0, .slice none 0 0, .slice none 0 0] 25)).size)); have z2 := hid ((Cs.new X1 25 #[.int .i64 0, .slice none 0 0, .slice none 0 0]).step hb2); have zb : u1.heap.size ≤ X1.heap.size := D1.out.size; have L2 := hid ((L1.out.step (below1 X1 (.cells #[.int .i64 0, .slice none 0 0, .slice none 0 0] 25))).step hb2); clear hb2) | (go_at_call 21; (with_reducible refine (toStamp_any _ _ _).mono ?_); rintro e X2 ⟨rfl, hb2⟩; have D2 := hid (D1.out.trans (hb2.mono D1.out.size)); have L2 := hid (L1.out.step hb2); clear hb2) | (go_at_call 20; (with_reducible refine (RoundAdd_specE hR.out _ (L2.out.ow.rd hnn hmm)).mono ?_); rintro e X3 ⟨E1, f1, E2, f2, rfl, o3, hb3⟩; have z3 := hid (z2.out.step hb3); have zlt := z2.out.lt; have D3 := hid (D2.out.trans (hb3.mono D2.out.size)); have o3 := hid o3; have hsz := D2.out.size; obtain ⟨zc0, zc1, zc2⟩ := z3.out.three; obtain ⟨zf0, zf1, zf2⟩ := z3.out.free3; clear hb3) | (go_at_call 20; (with_reducible refine (RoundAdd_specE hR.out _ ((L2.out.step (below1 X2 (.cells #[.int .i64 0, .slice none 0 0, .slice none 0 0] 25))).ow.rd hnn hmm)).mono ?_); rintro e X3 ⟨E1, f1, E2, f2, rfl, o3, hb3⟩; have zlt : X2.heap.size < (X2.alloc (.cells #[.int .i64 0, .slice none 0 0, .slice none 0 0] 25)).heap.size := (Cs.new X2 25 #[.int .i64 0, .slice none 0 0, .slice none 0 0]).lt; have z3 := hid ((Cs.new X2 25 #[.int .i64 0, .slice none 0 0, .slice none 0 0]).step hb3); have D3 := hid ((D2.out.alloc D2.out.size (.cells #[.int .i64 0, .slice none 0 0, .slice none 0 0] 25)).trans (hb3.mono (D2.out.alloc D2.out.size (.cells #[.int .i64 0, .slice none 0 0, .slice none 0 0] 25)).size)); have zb : u1.heap.size ≤ X2.heap.size := D2.out.size; have o3 := hid o3; obtain ⟨zc0, zc1, zc2⟩ := z3.out.three; obtain ⟨zf0, zf1, zf2⟩ := z3.out.free3; clear hb3) | (go_at_call 20; (with_reducible refine (RoundAdd_specE hR.out _ (L2.out.ow.rd hnn hmm)).mono ?_); rintro e X3 ⟨E1, f1, E2, f2, rfl, o3, hb3⟩; have D3 := hid (D2.out.trans (hb3.mono D2.out.size)); have o3 := hid o3; have hsz := D2.out.size; clear hb3))
      all_goals
        go_wp2
        go_meet
        first
          | exact CutA.old D3.out z3.out zb zlt o3.out
          | exact CutA.fresh D3.out hsz o3.out
    case rest =>
      obtain ⟨bw, Aw, cw, Ew, ew, rfl, rfl, hb, hbxw, hc, ho⟩ := hcut
      obtain ⟨u2, rfl⟩ : ∃ W, W = wc := ⟨_, rfl⟩
      have hb_2 := hid hb.out
      have Ka_2 := hid (Ka_1.out.step hb_2.out)
      have Ks_2 := hid (Ks_1.out.step hb_2.out)
      have B_2 := hid (B_1.out.trans (hb_2.out.mono (by omega)))
      have z_2 : u1.heap.size ≤ u2.heap.size := hb_2.out.size
      clear Ka_1 Ks_1 B_1
      clear hb_2
      clear hb
      have hblw : bw < u2.heap.size := hc.out.lt
      have Kw_2 := hc
      clear hc
      have Lw_2 := hid (Lr.of ho.out)
      clear ho
      obtain ⟨qa0, qa1, qa2⟩ := Ka_2.out.three
      go_wp2_with fail
      refine (toRound_any i _ ((Reads.below hx1.out B_2.out).more B_2.out.size) (hx2.out.below B_2.out) hnn hmm).mono ?_
      rintro e u3 ⟨Ax, cx, Bx, dx, rfl, ox, hb⟩
      clear qa0 qa1 qa2
      have hb_3 := hid hb
      have Ka_3 := hid (Ka_2.out.step hb_3.out)
      have Ks_3 := hid (Ks_2.out.step hb_3.out)
      have Kw_3 := hid (Kw_2.out.step hb_3.out)
      have Lw_3 := hid (Lw_2.out.step hb_3.out)
      have B_3 := hid (B_2.out.trans (hb_3.out.mono (by omega)))
      have z_3 : u2.heap.size ≤ u3.heap.size := hb_3.out.size
      clear Ka_2 Ks_2 Kw_2 Lw_2 B_2
      clear hb_3
      clear hb
      have Lx_3 := hid (Lr.of ox)
      clear ox
      go_upto_region 7 with (fail)
      obtain ⟨u4, hu⟩ : ∃ W, (u3.alloc (.cells #[.int .i64 i, .slice Ax gs.length cx, .slice Bx xs.length dx] 25)) = W := ⟨_, rfl⟩
      rw [hu]
      have hb : Below u3.heap.size u3 u4 := by rw [← hu]; exact below1 _ _
      have hcx : Cs u4 (u3.heap.size) 25 #[.int .i64 i, .slice Ax gs.length cx, .slice Bx xs.length dx] := by rw [← hu]; exact Cs.new _ _ _
      clear hu
      have hb_4 := hid hb
      have Ka_4 := hid (Ka_3.out.step hb_4.out)
      have Ks_4 := hid (Ks_3.out.step hb_4.out)
      have Kw_4 := hid (Kw_3.out.step hb_4.out)
      have Lw_4 := hid (Lw_3.out.step hb_4.out)
      have Lx_4 := hid (Lx_3.out.step hb_4.out)
      have B_4 := hid (B_3.out.trans (hb_4.out.mono (by omega)))
      have z_4 : u3.heap.size ≤ u4.heap.size := hb_4.out.size
      clear Ka_3 Ks_3 Kw_3 Lw_3 Lx_3 B_3
      clear hb_4
      clear hb
      have Kx_4 := hid hcx
      have yx_4 : u3.heap.size < u4.heap.size := hcx.lt
      clear hcx
      go_upto_region 7 with (fail)
      go_cut [9, 10] (fun v q wx => CutA u4 wx om og ox ok v q)
      case first =>
        have KA : Hid (∀ X, Below u4.heap.size u4 X → (X.cell? ⟨u3.heap.size, 0, none⟩ = some (.int .i64 i) ∧ X.cell? ⟨u3.heap.size, 1, none⟩ = some (.slice Ax gs.length cx) ∧ X.cell? ⟨u3.heap.size, 2, none⟩ = some (.slice Bx xs.length dx)) ∧ X.cell? ⟨(w.heap.size + 1), 0, none⟩ = some (.int .i64 st) ∧ X.cell? ⟨(w.heap.size + 1), 1, none⟩ = some (.int .i64 sg)) := hid (fun X h => ⟨(Kx_4.out.step h).three, (Ks_4.out.step h).two.1, (Ks_4.out.step h).two.2.1⟩)
        have D0 := hid (show Below u4.heap.size u4 u4.drew from (Below.refl _ _).drew)
        have DZ := hid (show Below u4.heap.size u4 (u4.alloc (.cells #[.int .i64 0, .slice none 0 0, .slice none 0 0] 25)).drew from (below1 _ _).drew)
        have CZ := hid (show Cs (u4.alloc (.cells #[.int .i64 0, .slice none 0 0, .slice none 0 0] 25)).drew u4.heap.size 25 #[.int .i64 0, .slice none 0 0, .slice none 0 0] from Cs.new u4 _ _)
        have BD := hid (B_4.out.trans (D0.out.mono (by omega)))
        have BZ := hid (B_4.out.trans (DZ.out.mono (by omega)))
        go_region_held3 (fun w' => (w'.cell? ⟨u3.heap.size, 0, none⟩ = some (.int .i64 i) ∧ w'.cell? ⟨u3.heap.size, 1, none⟩ = some (.slice Ax gs.length cx) ∧ w'.cell? ⟨u3.heap.size, 2, none⟩ = some (.slice Bx xs.length dx)) ∧ w'.cell? ⟨(w.heap.size + 1), 0, none⟩ = some (.int .i64 st) ∧ w'.cell? ⟨(w.heap.size + 1), 1, none⟩ = some (.int .i64 sg))
          (first | with_reducible exact KA.out _ D0.out | with_reducible exact KA.out _ DZ.out | with_reducible exact KA.out _ D1.out | with_reducible exact KA.out _ (D1.out.alloc D1.out.size _) | with_reducible exact KA.out _ D2.out | with_reducible exact KA.out _ (D2.out.alloc D2.out.size _) | with_reducible exact KA.out _ D3.out | with_reducible exact KA.out _ (D3.out.alloc D3.out.size _) | with_reducible exact KA.out _ (((D3.out.setCell (p := ⟨_, 0, none⟩) zb _).setCell (p := ⟨_, 1, none⟩) zb _).setCell (p := ⟨_, 2, none⟩) zb _))
          (first | (go_at_call 21; (with_reducible refine (toStamp_any _ _ _).mono ?_); rintro e X2 ⟨rfl, hb2⟩; have z2 := hid (CZ.out.step hb2); have D2 := hid (DZ.out.trans (hb2.mono DZ.out.size)); have zb : u4.heap.size ≤ u4.heap.size := Nat.le_refl _; have L2 := hid (Lx_4.out.step D2.out); clear hb2) | (go_at_call 21; (with_reducible refine (toStamp_any _ _ _).mono ?_); rintro e X2 ⟨rfl, hb2⟩; have D2 := hid (D0.out.trans (hb2.mono D0.out.size)); have L2 := hid (Lx_4.out.step D2.out); clear hb2) | (go_at_call 22; (with_reducible refine (RoundAdd_implE hR.out _ (L2.out.ow.rd hnn hmm)).mono ?_); rintro e X3 ⟨E1, f1, E2, f2, rfl, o3, hb3⟩; have z3 := hid (z2.out.step hb3); have zlt := z2.out.lt; have D3 := hid (D2.out.trans (hb3.mono D2.out.size)); have o3 := hid o3; have hsz := D2.out.size; obtain ⟨zc0, zc1, zc2⟩ := z3.out.three; obtain ⟨zf0, zf1, zf2⟩ := z3.out.free3; clear hb3) | (go_at_call 22; (with_reducible refine (RoundAdd_implE hR.out _ ((L2.out.step (below1 X2 (.cells #[.int .i64 0, .slice none 0 0, .slice none 0 0] 25))).ow.rd hnn hmm)).mono ?_); rintro e X3 ⟨E1, f1, E2, f2, rfl, o3, hb3⟩; have zlt : X2.heap.size < (X2.alloc (.cells #[.int .i64 0, .slice none 0 0, .slice none 0 0] 25)).heap.size := (Cs.new X2 25 #[.int .i64 0, .slice none 0 0, .slice none 0 0]).lt; have z3 := hid ((Cs.new X2 25 #[.int .i64 0, .slice none 0 0, .slice none 0 0]).step hb3); have D3 := hid ((D2.out.alloc D2.out.size (.cells #[.int .i64 0, .slice none 0 0, .slice none 0 0] 25)).trans (hb3.mono (D2.out.alloc D2.out.size (.cells #[.int .i64 0, .slice none 0 0, .slice none 0 0] 25)).size)); have zb : u4.heap.size ≤ X2.heap.size := D2.out.size; have o3 := hid o3; obtain ⟨zc0, zc1, zc2⟩ := z3.out.three; obtain ⟨zf0, zf1, zf2⟩ := z3.out.free3; clear hb3) | (go_at_call 22; (with_reducible refine (RoundAdd_implE hR.out _ (L2.out.ow.rd hnn hmm)).mono ?_); rintro e X3 ⟨E1, f1, E2, f2, rfl, o3, hb3⟩; have D3 := hid (D2.out.trans (hb3.mono D2.out.size)); have o3 := hid o3; have hsz := D2.out.size; clear hb3))
        all_goals
          go_wp2
          go_meet
          first
            | exact CutA.old D3.out z3.out zb zlt o3.out
            | exact CutA.fresh D3.out hsz o3.out
      case rest =>
        obtain ⟨bg, Ag, cg, Eg, eg, rfl, rfl, hb, hbxg, hc, ho⟩ := hcut
        obtain ⟨u5, rfl⟩ : ∃ W, W = wc := ⟨_, rfl⟩
        have hb_5 := hid hb.out
        have Ka_5 := hid (Ka_4.out.step hb_5.out)
        have Ks_5 := hid (Ks_4.out.step hb_5.out)
        have Kw_5 := hid (Kw_4.out.step hb_5.out)
        have Kx_5 := hid (Kx_4.out.step hb_5.out)
        have Lw_5 := hid (Lw_4.out.step hb_5.out)
        have Lx_5 := hid (Lx_4.out.step hb_5.out)
        have B_5 := hid (B_4.out.trans (hb_5.out.mono (by omega)))
        have z_5 : u4.heap.size ≤ u5.heap.size := hb_5.out.size
        clear Ka_4 Ks_4 Kw_4 Kx_4 Lw_4 Lx_4 B_4
        clear hb_5
        clear hb
        have hblg : bg < u5.heap.size := hc.out.lt
        have Kg_5 := hc
        clear hc
        have Lg_5 := hid (Lr.of ho.out)
        clear ho
        obtain ⟨qg0, qg1, qg2⟩ := Kg_5.out.three
        obtain ⟨qw0, qw1, qw2⟩ := Kw_5.out.three
        go_wp2_with fail
        refine (eqRound_same om _ Lg_5.out.r1 Lg_5.out.r2 Lw_5.out.r1 Lw_5.out.r2 (by omega) (by omega)).mono ?_
        rintro e u6 ⟨rfl, hb⟩
        clear qg0 qg1 qg2 qw0 qw1 qw2
        have hb_6 := hid hb
        have Ka_6 := hid (Ka_5.out.step hb_6.out)
        have Ks_6 := hid (Ks_5.out.step hb_6.out)
        have Kw_6 := hid (Kw_5.out.step hb_6.out)
        have Kx_6 := hid (Kx_5.out.step hb_6.out)
        have Kg_6 := hid (Kg_5.out.step hb_6.out)
        have Lw_6 := hid (Lw_5.out.step hb_6.out)
        have Lx_6 := hid (Lx_5.out.step hb_6.out)
        have Lg_6 := hid (Lg_5.out.step hb_6.out)
        have B_6 := hid (B_5.out.trans (hb_6.out.mono (by omega)))
        have z_6 : u5.heap.size ≤ u6.heap.size := hb_6.out.size
        clear Ka_5 Ks_5 Kw_5 Kx_5 Kg_5 Lw_5 Lx_5 Lg_5 B_5
        clear hb_6
        clear hb
        have hd := hid (Below.refl u6.heap.size u6).drew
        have Ka_d := hid (Ka_6.out.step hd.out)
        have Ks_d := hid (Ks_6.out.step hd.out)
        have Kw_d := hid (Kw_6.out.step hd.out)
        have Kx_d := hid (Kx_6.out.step hd.out)
        have Kg_d := hid (Kg_6.out.step hd.out)
        have Lw_d := hid (Lw_6.out.step hd.out)
        have Lx_d := hid (Lx_6.out.step hd.out)
        have Lg_d := hid (Lg_6.out.step hd.out)
        have B_d := hid (B_6.out.trans (hd.out.mono (by omega)))
        have z_d : u6.heap.size ≤ u6.drew.heap.size := hd.out.size
        have qe0 := And.intro Kx_d.out.three Ka_d.out.three
        have qf0 := And.intro Kx_6.out.three Ka_6.out.three
        go_wp2_with fail
        go_region_held3 (fun w' => (w'.cell? ⟨u3.heap.size, 0, none⟩ = some (.int .i64 i) ∧ w'.cell? ⟨u3.heap.size, 1, none⟩ = some (.slice Ax gs.length cx) ∧ w'.cell? ⟨u3.heap.size, 2, none⟩ = some (.slice Bx xs.length dx)) ∧ w'.cell? ⟨w.heap.size, 0, none⟩ = some (.int .i64 i) ∧ w'.cell? ⟨w.heap.size, 1, none⟩ = some (.slice A gs.length c) ∧ w'.cell? ⟨w.heap.size, 2, none⟩ = some (.slice B xs.length d))
          (first | with_reducible exact qe0 | with_reducible exact qe1 | with_reducible exact qe2 | with_reducible exact qf0 | go_keep)
          (first | (go_at_call 18; (refine (toRound_any i _ ((Reads.below hx1.out B_d.out).more B_d.out.size) (hx2.out.below B_d.out) hnn hmm).mono ?_); rintro e ud ⟨Ad, cd, Bd, dd, rfl, od, hb⟩; have Ka_e := hid (Ka_d.out.step hb); have Ks_e := hid (Ks_d.out.step hb); have Kw_e := hid (Kw_d.out.step hb); have Kx_e := hid (Kx_d.out.step hb); have Kg_e := hid (Kg_d.out.step hb); have Lw_e := hid (Lw_d.out.step hb); have Lx_e := hid (Lx_d.out.step hb); have Lg_e := hid (Lg_d.out.step hb); have B_e := hid (B_d.out.trans (hb.mono (by omega))); have z_e := hb.size; have Ld_e := hid (Lr.of od); have qe1 := And.intro Kx_e.out.three Ka_e.out.three; clear hb od) | (go_at_call 11; (refine (eqRound_same i _ Lx_e.out.r1 Lx_e.out.r2 Ld_e.out.r1 Ld_e.out.r2 (by omega) (by omega)).mono ?_); rintro e u7 ⟨rfl, hb⟩; have Ka_7 := hid (Ka_e.out.step hb); have Ks_7 := hid (Ks_e.out.step hb); have Kw_7 := hid (Kw_e.out.step hb); have Kx_7 := hid (Kx_e.out.step hb); have Kg_7 := hid (Kg_e.out.step hb); have Lw_7 := hid (Lw_e.out.step hb); have Lx_7 := hid (Lx_e.out.step hb); have Lg_7 := hid (Lg_e.out.step hb); have B_7 := hid (B_e.out.trans (hb.mono (by omega))); have z_7 : u6.heap.size ≤ u7.heap.size := Nat.le_trans z_d (Nat.le_trans z_e hb.size); have qe2 := And.intro Kx_7.out.three Ka_7.out.three; clear hb))
        clear qe0 qf0 qe1 qe2 hd B_d B_e Ld_e z_d z_e
        clear Ka_d Ks_d Kw_d Kx_d Kg_d Lw_d Lx_d Lg_d
        clear Ka_e Ks_e Kw_e Kx_e Kg_e Lw_e Lx_e Lg_e
        clear Ka_6 Ks_6 Kw_6 Kx_6 Kg_6 Lw_6 Lx_6 Lg_6 B_6
        obtain ⟨qx0, qx1, qx2⟩ := Kx_7.out.three
        go_wp2_with fail
        refine (markRound_any i 1 _ Lx_7.out (by omega) (by omega) (by omega) (by omega)).mono ?_
        rintro e u8 ⟨rfl, hL, hK⟩
        clear qx0 qx1 qx2
        have hk_8 := hid hK
        have z_8 : u7.heap.size ≤ u8.heap.size := hk_8.out.size
        have Ka_8 := hid (Ka_7.out.kp hk_8.out (fun (h : u2.heap.size ≤ w.heap.size ∧ w.heap.size < u3.heap.size) => by omega))
        have Ks_8 := hid (Ks_7.out.kp hk_8.out (fun (h : u2.heap.size ≤ (w.heap.size + 1) ∧ (w.heap.size + 1) < u3.heap.size) => by omega))
        have Kw_8 := hid (Kw_7.out.kp hk_8.out (fun (h : u2.heap.size ≤ bw ∧ bw < u3.heap.size) => by omega))
        have Kx_8 := hid (Kx_7.out.kp hk_8.out (fun (h : u2.heap.size ≤ u3.heap.size ∧ u3.heap.size < u3.heap.size) => by omega))
        have Kg_8 := hid (Kg_7.out.kp hk_8.out (fun (h : u2.heap.size ≤ bg ∧ bg < u3.heap.size) => by omega))
        have Lw_8 := hid (Lw_7.out.kp hk_8.out (fun b h1 h2 (h3 : u2.heap.size ≤ b ∧ b < u3.heap.size) => by omega))
        have Lg_8 := hid (Lg_7.out.kp hk_8.out (fun b h1 h2 (h3 : u2.heap.size ≤ b ∧ b < u3.heap.size) => by omega))
        have B_8 := hid (B_7.out.trans (hk_8.out.base (by omega) (fun b (h : u2.heap.size ≤ b ∧ b < u3.heap.size) => by omega)))
        clear Ka_7 Ks_7 Kw_7 Kx_7 Kg_7 Lw_7 Lx_7 Lg_7 B_7
        clear hk_8
        have Lx_8 := hid hL
        clear hL hK
        have gk : ¬ (1 + (gs.length : Int) + 2 * (xs.length : Int) < 0) := by omega
        obtain ⟨qg0, qg1, qg2⟩ := Kg_8.out.three
        obtain ⟨qw0, qw1, qw2⟩ := Kw_8.out.three
        go_wp2_with fail
        refine (eqRound_same om _ Lg_8.out.r1 Lg_8.out.r2 Lw_8.out.r1 Lw_8.out.r2 (by omega) (by omega)).mono ?_
        rintro e u9 ⟨rfl, hb⟩
        clear qg0 qg1 qg2 qw0 qw1 qw2
        have hb_9 := hid hb
        have Ka_9 := hid (Ka_8.out.step hb_9.out)
        have Ks_9 := hid (Ks_8.out.step hb_9.out)
        have Kw_9 := hid (Kw_8.out.step hb_9.out)
        have Kx_9 := hid (Kx_8.out.step hb_9.out)
        have Kg_9 := hid (Kg_8.out.step hb_9.out)
        have Lw_9 := hid (Lw_8.out.step hb_9.out)
        have Lx_9 := hid (Lx_8.out.step hb_9.out)
        have Lg_9 := hid (Lg_8.out.step hb_9.out)
        have B_9 := hid (B_8.out.trans (hb_9.out.mono (by omega)))
        have z_9 : u8.heap.size ≤ u9.heap.size := hb_9.out.size
        clear Ka_8 Ks_8 Kw_8 Kx_8 Kg_8 Lw_8 Lx_8 Lg_8 B_8
        clear hb_9
        clear hb
        clear Lx_9
        clear Kx_9
        obtain ⟨qg0, qg1, qg2⟩ := Kg_9.out.three
        go_wp2_with fail
        refine (markRound_own om 1 _ Lg_9.out (by omega) (by omega) (by omega) (by omega)).mono ?_
        rintro e u10 ⟨rfl, hL, hK⟩
        clear qg0 qg1 qg2
        have hI := hid (fun b (h : (Value.slice Ag og.length cg).ownBlock = some b ∨ (Value.slice Eg ox.length eg).ownBlock = some b) => (show u4.heap.size ≤ b ∧ b < u5.heap.size from h.elim (fun h => ⟨(Lg_9.out.ow.og.lt b h).1, Lg_9.out.hb b (.inl h)⟩) (fun h => ⟨(Lg_9.out.ow.os.lt b h).1, Lg_9.out.hb b (.inr h)⟩)))
        have hk := hid hK
        have z_10 : u9.heap.size ≤ u10.heap.size := hK.size
        have Ka_10 := hid (Ka_9.out.kp hk.out (fun h => by have := hI.out _ h; omega))
        have Ks_10 := hid (Ks_9.out.kp hk.out (fun h => by have := hI.out _ h; omega))
        have Kw_10 := hid (Kw_9.out.kp hk.out (fun h => by have := hI.out _ h; omega))
        have Kg_10 := hid (Kg_9.out.kp hk.out (fun h => h.elim (cs_type Kg_9.out Lg_9.out.ow.og (by decide)) (cs_type Kg_9.out Lg_9.out.ow.os (by decide))))
        have Lw_10 := hid (Lw_9.out.kp hk.out (fun b h1 h2 h3 => by have := hI.out _ h3; omega))
        have B_10 := hid (B_9.out.trans (hk.out.base (by omega) (fun b h => by have := hI.out _ h; omega)))
        clear Ka_9 Ks_9 Kw_9 Kg_9 Lw_9 Lg_9 B_9
        clear hk hI hK
        have Lg_10 := hid hL
        clear hL
        have gm : ¬ (1 + (og.length : Int) + 2 * (ox.length : Int) < 0) := by omega
        obtain ⟨qg0, qg1, qg2⟩ := Kg_10.out.three
        go_wp2_with fail
        refine (heldRound_any om 1 _ Lg_10.out.r1 Lg_10.out.r2 (by omega) (by omega) (by omega) (by omega)).mono ?_
        rintro e u11 ⟨rfl, hb⟩
        clear qg0 qg1 qg2
        have hb_11 := hid hb
        have Ka_11 := hid (Ka_10.out.step hb_11.out)
        have Ks_11 := hid (Ks_10.out.step hb_11.out)
        have Kw_11 := hid (Kw_10.out.step hb_11.out)
        have Kg_11 := hid (Kg_10.out.step hb_11.out)
        have Lw_11 := hid (Lw_10.out.step hb_11.out)
        have Lg_11 := hid (Lg_10.out.step hb_11.out)
        have B_11 := hid (B_10.out.trans (hb_11.out.mono (by omega)))
        have z_11 : u10.heap.size ≤ u11.heap.size := hb_11.out.size
        clear Ka_10 Ks_10 Kw_10 Kg_10 Lw_10 Lg_10 B_10
        clear hb_11
        clear hb
        go_upto_region 24 with (fail)
        go_cut [14, 15] (fun v q wx => CutA u11 wx om og ox ok v q)
        case first =>
          have KA : Hid (∀ X, Below u11.heap.size u11 X → (X.cell? ⟨w.heap.size, 0, none⟩ = some (.int .i64 i) ∧ X.cell? ⟨w.heap.size, 1, none⟩ = some (.slice A gs.length c) ∧ X.cell? ⟨w.heap.size, 2, none⟩ = some (.slice B xs.length d)) ∧ X.cell? ⟨(w.heap.size + 1), 0, none⟩ = some (.int .i64 st) ∧ X.cell? ⟨(w.heap.size + 1), 1, none⟩ = some (.int .i64 sg)) := hid (fun X h => ⟨(Ka_11.out.step h).three, (Ks_11.out.step h).two.1, (Ks_11.out.step h).two.2.1⟩)
          have D0 := hid (show Below u11.heap.size u11 u11.drew from (Below.refl _ _).drew)
          have DZ := hid (show Below u11.heap.size u11 (u11.alloc (.cells #[.int .i64 0, .slice none 0 0, .slice none 0 0] 25)).drew from (below1 _ _).drew)
          have CZ := hid (show Cs (u11.alloc (.cells #[.int .i64 0, .slice none 0 0, .slice none 0 0] 25)).drew u11.heap.size 25 #[.int .i64 0, .slice none 0 0, .slice none 0 0] from Cs.new u11 _ _)
          have BD := hid (B_11.out.trans (D0.out.mono (by omega)))
          have BZ := hid (B_11.out.trans (DZ.out.mono (by omega)))
          go_region_held3 (fun w' => (w'.cell? ⟨w.heap.size, 0, none⟩ = some (.int .i64 i) ∧ w'.cell? ⟨w.heap.size, 1, none⟩ = some (.slice A gs.length c) ∧ w'.cell? ⟨w.heap.size, 2, none⟩ = some (.slice B xs.length d)) ∧ w'.cell? ⟨(w.heap.size + 1), 0, none⟩ = some (.int .i64 st) ∧ w'.cell? ⟨(w.heap.size + 1), 1, none⟩ = some (.int .i64 sg))
            (first | with_reducible exact KA.out _ D0.out | with_reducible exact KA.out _ DZ.out | with_reducible exact KA.out _ D1.out | with_reducible exact KA.out _ (D1.out.alloc D1.out.size _) | with_reducible exact KA.out _ D2.out | with_reducible exact KA.out _ (D2.out.alloc D2.out.size _) | with_reducible exact KA.out _ D3.out | with_reducible exact KA.out _ (D3.out.alloc D3.out.size _) | with_reducible exact KA.out _ (((D3.out.setCell (p := ⟨_, 0, none⟩) zb _).setCell (p := ⟨_, 1, none⟩) zb _).setCell (p := ⟨_, 2, none⟩) zb _))
            (first | (go_at_call 18; (with_reducible refine (toRound_any i _ ((Reads.below hx1.out BZ.out).more BZ.out.size) (hx2.out.below BZ.out) hnn hmm).mono ?_); rintro e X1 ⟨Ay, cy, By, dy, rfl, o1, hb1⟩; have D1 := hid (DZ.out.trans (hb1.mono DZ.out.size)); have z1 := hid (CZ.out.step hb1); have L1 := hid (Lr.of o1); have zb : u11.heap.size ≤ u11.heap.size := Nat.le_refl _; clear o1 hb1) | (go_at_call 18; (with_reducible refine (toRound_any i _ ((Reads.below hx1.out BD.out).more BD.out.size) (hx2.out.below BD.out) hnn hmm).mono ?_); rintro e X1 ⟨Ay, cy, By, dy, rfl, o1, hb1⟩; have D1 := hid (D0.out.trans (hb1.mono D0.out.size)); have L1 := hid (Lr.of o1); clear o1 hb1) | (go_at_call 21; (with_reducible refine (toStamp_any _ _ _).mono ?_); rintro e X2 ⟨rfl, hb2⟩; have z2 := hid (z1.out.step hb2); have D2 := hid (D1.out.trans (hb2.mono D1.out.size)); have L2 := hid (L1.out.step hb2); clear hb2) | (go_at_call 21; (with_reducible refine (toStamp_any _ _ _).mono ?_); rintro e X2 ⟨rfl, hb2⟩; have D2 := hid ((D1.out.alloc D1.out.size (.cells #[.int .i64 0, .slice none 0 0, .slice none 0 0] 25)).trans (hb2.mono (D1.out.alloc D1.out.size (.cells #[.int .i64 0, .slice none 0 0, .slice none 0 0] 25)).size)); have z2 := hid ((Cs.new X1 25 #[.int .i64 0, .slice none 0 0, .slice none 0 0]).step hb2); have zb : u11.heap.size ≤ X1.heap.size := D1.out.size; have L2 := hid ((L1.out.step (below1 X1 (.cells #[.int .i64 0, .slice none 0 0, .slice none 0 0] 25))).step hb2); clear hb2) | (go_at_call 21; (with_reducible refine (toStamp_any _ _ _).mono ?_); rintro e X2 ⟨rfl, hb2⟩; have D2 := hid (D1.out.trans (hb2.mono D1.out.size)); have L2 := hid (L1.out.step hb2); clear hb2) | (go_at_call 22; (with_reducible refine (RoundAdd_implE hR.out _ (L2.out.ow.rd hnn hmm)).mono ?_); rintro e X3 ⟨E1, f1, E2, f2, rfl, o3, hb3⟩; have z3 := hid (z2.out.step hb3); have zlt := z2.out.lt; have D3 := hid (D2.out.trans (hb3.mono D2.out.size)); have o3 := hid o3; have hsz := D2.out.size; obtain ⟨zc0, zc1, zc2⟩ := z3.out.three; obtain ⟨zf0, zf1, zf2⟩ := z3.out.free3; clear hb3) | (go_at_call 22; (with_reducible refine (RoundAdd_implE hR.out _ ((L2.out.step (below1 X2 (.cells #[.int .i64 0, .slice none 0 0, .slice none 0 0] 25))).ow.rd hnn hmm)).mono ?_); rintro e X3 ⟨E1, f1, E2, f2, rfl, o3, hb3⟩; have zlt : X2.heap.size < (X2.alloc (.cells #[.int .i64 0, .slice none 0 0, .slice none 0 0] 25)).heap.size := (Cs.new X2 25 #[.int .i64 0, .slice none 0 0, .slice none 0 0]).lt; have z3 := hid ((Cs.new X2 25 #[.int .i64 0, .slice none 0 0, .slice none 0 0]).step hb3); have D3 := hid ((D2.out.alloc D2.out.size (.cells #[.int .i64 0, .slice none 0 0, .slice none 0 0] 25)).trans (hb3.mono (D2.out.alloc D2.out.size (.cells #[.int .i64 0, .slice none 0 0, .slice none 0 0] 25)).size)); have zb : u11.heap.size ≤ X2.heap.size := D2.out.size; have o3 := hid o3; obtain ⟨zc0, zc1, zc2⟩ := z3.out.three; obtain ⟨zf0, zf1, zf2⟩ := z3.out.free3; clear hb3) | (go_at_call 22; (with_reducible refine (RoundAdd_implE hR.out _ (L2.out.ow.rd hnn hmm)).mono ?_); rintro e X3 ⟨E1, f1, E2, f2, rfl, o3, hb3⟩; have D3 := hid (D2.out.trans (hb3.mono D2.out.size)); have o3 := hid o3; have hsz := D2.out.size; clear hb3))
          all_goals
            go_wp2
            go_meet
            first
              | exact CutA.old D3.out z3.out zb zlt o3.out
              | exact CutA.fresh D3.out hsz o3.out
        case rest =>
          obtain ⟨bh, Ah, ch, Eh, eh, rfl, rfl, hb, hbxh, hc, ho⟩ := hcut
          obtain ⟨u12, rfl⟩ : ∃ W, W = wc := ⟨_, rfl⟩
          have hb_12 := hid hb.out
          have Ka_12 := hid (Ka_11.out.step hb_12.out)
          have Ks_12 := hid (Ks_11.out.step hb_12.out)
          have Kw_12 := hid (Kw_11.out.step hb_12.out)
          have Kg_12 := hid (Kg_11.out.step hb_12.out)
          have Lw_12 := hid (Lw_11.out.step hb_12.out)
          have Lg_12 := hid (Lg_11.out.step hb_12.out)
          have B_12 := hid (B_11.out.trans (hb_12.out.mono (by omega)))
          have z_12 : u11.heap.size ≤ u12.heap.size := hb_12.out.size
          clear Ka_11 Ks_11 Kw_11 Kg_11 Lw_11 Lg_11 B_11
          clear hb_12
          clear hb
          have hblh : bh < u12.heap.size := hc.out.lt
          have Kh_12 := hc
          clear hc
          have Lh_12 := hid (Lr.of ho.out)
          clear ho
          obtain ⟨qh0, qh1, qh2⟩ := Kh_12.out.three
          obtain ⟨qw0, qw1, qw2⟩ := Kw_12.out.three
          go_wp2_with fail
          refine (eqRound_same om _ Lh_12.out.r1 Lh_12.out.r2 Lw_12.out.r1 Lw_12.out.r2 (by omega) (by omega)).mono ?_
          rintro e u13 ⟨rfl, hb⟩
          clear qh0 qh1 qh2 qw0 qw1 qw2
          have hb_13 := hid hb
          have Ka_13 := hid (Ka_12.out.step hb_13.out)
          have Ks_13 := hid (Ks_12.out.step hb_13.out)
          have Kw_13 := hid (Kw_12.out.step hb_13.out)
          have Kg_13 := hid (Kg_12.out.step hb_13.out)
          have Kh_13 := hid (Kh_12.out.step hb_13.out)
          have Lw_13 := hid (Lw_12.out.step hb_13.out)
          have Lg_13 := hid (Lg_12.out.step hb_13.out)
          have Lh_13 := hid (Lh_12.out.step hb_13.out)
          have B_13 := hid (B_12.out.trans (hb_13.out.mono (by omega)))
          have z_13 : u12.heap.size ≤ u13.heap.size := hb_13.out.size
          clear Ka_12 Ks_12 Kw_12 Kg_12 Kh_12 Lw_12 Lg_12 Lh_12 B_12
          clear hb_13
          clear hb
          obtain ⟨qg0, qg1, qg2⟩ := Kg_13.out.three
          go_wp2_with fail
          refine (heldRound_any om 1 _ Lg_13.out.r1 Lg_13.out.r2 (by omega) (by omega) (by omega) (by omega)).mono ?_
          rintro e u14 ⟨rfl, hb⟩
          clear qg0 qg1 qg2
          have hb_14 := hid hb
          have Ka_14 := hid (Ka_13.out.step hb_14.out)
          have Ks_14 := hid (Ks_13.out.step hb_14.out)
          have Kw_14 := hid (Kw_13.out.step hb_14.out)
          have Kg_14 := hid (Kg_13.out.step hb_14.out)
          have Kh_14 := hid (Kh_13.out.step hb_14.out)
          have Lw_14 := hid (Lw_13.out.step hb_14.out)
          have Lg_14 := hid (Lg_13.out.step hb_14.out)
          have Lh_14 := hid (Lh_13.out.step hb_14.out)
          have B_14 := hid (B_13.out.trans (hb_14.out.mono (by omega)))
          have z_14 : u13.heap.size ≤ u14.heap.size := hb_14.out.size
          clear Ka_13 Ks_13 Kw_13 Kg_13 Kh_13 Lw_13 Lg_13 Lh_13 B_13
          clear hb_14
          clear hb
          go_wp2
          go_ret
          exact ⟨rfl, B_14.out⟩
  · have hz : (if gs.length + xs.length ≤ 1048576 then 1048576 - (gs.length : Int) - (xs.length : Int) else -1) = -1 := if_neg hbig
    replace hz := hid hz
    obtain ⟨qa0, qa1, qa2⟩ := Ka_0.out.three
    go_enter Try.func5, Try.ntmps5
    go_upto_region 2 with (fail)
    rw [hu0.out]
    go_wp2_with fail
    refine (szRound_any i _ (by omega) (by omega) hz.out).mono ?_
    rintro e w1 ⟨rfl, hb⟩
    have hB := hid (B_0.out.trans (hb.mono (by omega)))
    clear hb
    go_wp2
    go_ret
    exact ⟨rfl, hB.out⟩

end Go.Proofs.Ytjmhedolidkdhaa
