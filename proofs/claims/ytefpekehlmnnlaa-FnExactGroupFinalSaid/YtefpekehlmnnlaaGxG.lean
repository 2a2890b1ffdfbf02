/-
  The walks of the exact laws of GroupFinal: the law returns true and writes nothing that was there. No condition.
-/
import Derived.Test.YtefpekehlmnnlaaGxD
import Derived.Test.YtefpekehlmnnlaaGxF
import Derived.Test.YtefpekehlmnnlaaGmYi
import Derived.Test.YtefpekehlmnnlaaAt2
import Derived.Deep.DeepCutAuto
import Derived.Deep.CutBlock
import Derived.Deep.RegionLaw
import Derived.Deep.RegionHeld3
namespace Go.Proofs.Ytefpekehlmnnlaa
open Go.RowKit
set_option linter.unusedVariables false
set_option linter.unusedSimpArgs false

/-- the group, the slice and the bool that GroupFinal handed back, the group in a box of the law's own -/
def CutF (u wx : World) (id' ck' : Int) (P' D' : List En) (T : List Int) (b' : Bool) (v o q : Value) : Prop :=
  ∃ (bx : Nat) (A1 : Option Addr) (c1 : Nat) (A2 : Option Addr) (c2 : Nat) (A3 : Option Addr) (c3 : Nat), v = .pointer (some ⟨bx, 0, none⟩) ∧ o = .slice A3 T.length c3 ∧ q = .bool b' ∧ Hid (Below u.heap.size u wx) ∧ u.heap.size ≤ bx ∧ Hid (Cs wx bx 24 #[.int .i64 id', .int .i64 ck', .slice A1 P'.length c1, .slice A2 D'.length c2]) ∧ Hid (OwG wx u.heap.size A1 P'.length c1 A2 D'.length c2 P' D') ∧ Hid (OwI wx u.heap.size (.slice A3 T.length c3) T)

theorem CutF.fresh {u X : World} {lo : Nat} {id' ck' : Int} {P' D' : List En} {T : List Int} {b' : Bool} {A1 A2 A3 : Option Addr} {c1 c2 c3 : Nat} (D : Below u.heap.size u X) (hlo : u.heap.size ≤ lo) (ho : OwG X lo A1 P'.length c1 A2 D'.length c2 P' D') (hi : OwI X lo (.slice A3 T.length c3) T) :
    CutF u (X.alloc (.cells #[.int .i64 id', .int .i64 ck', .slice A1 P'.length c1, .slice A2 D'.length c2] 24)) id' ck' P' D' T b' (.pointer (some ⟨X.heap.size, 0, none⟩)) (.slice A3 T.length c3) (.bool b') :=
  ⟨_, A1, c1, A2, c2, A3, c3, rfl, rfl, rfl, hid (D.alloc D.size _), D.size, hid (Cs.new X _ _), hid ((ho.below (below1 X _)).more hlo), hid (OwI.more ((own_of_block hi fun g hg => (below1 X _).block g (hi.lt g hg).2)) hlo)⟩

theorem CutF.old {u X : World} {lo bx : Nat} {id' ck' : Int} {P' D' : List En} {T : List Int} {b' : Bool} {A1 A2 A3 : Option Addr} {c1 c2 c3 : Nat} (D : Below u.heap.size u X) (z : Cs X bx 24 #[.int .i64 0, .int .i64 0, .slice none 0 0, .slice none 0 0]) (hb : u.heap.size ≤ bx) (hbl : bx < lo) (ho : OwG X lo A1 P'.length c1 A2 D'.length c2 P' D') (hi : OwI X lo (.slice A3 T.length c3) T) :
    CutF u ((((X.setCell ⟨bx, 0, none⟩ (.int .i64 id')).setCell ⟨bx, 1, none⟩ (.int .i64 ck')).setCell ⟨bx, 2, none⟩ (.slice A1 P'.length c1)).setCell ⟨bx, 3, none⟩ (.slice A2 D'.length c2)) id' ck' P' D' T b' (.pointer (some ⟨bx, 0, none⟩)) (.slice A3 T.length c3) (.bool b') := by
  have hk := (Kp.refl (fun k => k = bx) X).set4 (b := bx) rfl (.int .i64 id') (.int .i64 ck') (.slice A1 P'.length c1) (.slice A2 D'.length c2)
  refine ⟨bx, A1, c1, A2, c2, A3, c3, rfl, rfl, rfl, hid ((((D.setCell hb _).setCell hb _).setCell hb _).setCell hb _), hb, hid (z.set4 _ _ _ _), hid ((ho.kp hk (fun b h1 h2 => by omega)).more (by omega)), hid (OwI.more (own_of_block hi fun g hg => hk.block g (hi.lt g hg).2 (fun e => by have := (hi.lt g hg).1; omega)) (by omega))⟩

/-- rows of different types lie in different blocks -/
theorem own_type {w : World} {lo lo' n m s1 s2 : Nat} {t1 t2 : TypeId} {v u : Value} {xs ys : List Value} (h : w.ownsRow lo t1 s1 v n xs) (k : w.ownsRow lo' t2 s2 u m ys) (hne : t1 ≠ t2) : ∀ b, v.ownBlock = some b → u.ownBlock ≠ some b := by
  intro b hb hc
  rcases h.2 with ⟨rfl, _⟩ | ⟨g, cap, cur, rfl, _, hg, _⟩
  · cases hb
  · rcases k.2 with ⟨rfl, _⟩ | ⟨g2, cap2, cur2, rfl, _, hg2, _⟩
    · cases hc
    · injection hb with hb
      injection hc with hc
      simp only at hb hc
      subst hb; subst hc
      rw [hg] at hg2
      injection hg2 with e
      injection e with _ e2
      exact hne e2

theorem cs_type {w : World} {lo n s1 b : Nat} {t1 t2 : TypeId} {v : Value} {xs : List Value} {cs : Array Value} (k : Cs w b t2 cs) (h : w.ownsRow lo t1 s1 v n xs) (hne : t1 ≠ t2) : v.ownBlock ≠ some b := by
  intro hb
  rcases h.2 with ⟨rfl, _⟩ | ⟨g, cap, cur, rfl, _, hg, _⟩
  · cases hb
  · injection hb with hb
    simp only at hb
    subst hb
    unfold Cs at k
    rw [hg] at k
    injection k with e
    injection e with _ e2
    exact hne e2

theorem Lg.kpo {w w' : World} {S : Nat → Prop} {lo hi n1 c1 n2 c2 : Nat} {A1 A2 : Option Addr} {P D : List En} (h : Lg w lo hi A1 n1 c1 A2 n2 c2 P D) (hk : Kp S w w') (h1 : ∀ b, (Value.slice A1 n1 c1).ownBlock = some b → ¬ S b) (h2 : ∀ b, (Value.slice A2 n2 c2).ownBlock = some b → ¬ S b) : Lg w' lo hi A1 n1 c1 A2 n2 c2 P D :=
  ⟨⟨hk.own h.ow.op h1, hk.own h.ow.od h2, h.ow.l1, h.ow.l2, h.ow.ne⟩, h.hb, Nat.le_trans h.hi hk.size⟩

theorem Lv.kpo {S : Nat → Prop} {w w' : World} {lo hi : Nat} {v : Value} {zs : List Int} (h : Lv w lo hi v zs) (hk : Kp S w w') (hS : ∀ b, v.ownBlock = some b → ¬ S b) : Lv w' lo hi v zs :=
  ⟨⟨own_of_block h.1.1 fun g hg => hk.block g (h.1.1.lt g hg).2 (hS g hg), h.1.2⟩, Nat.le_trans h.2 hk.size⟩

theorem fiR_len {g g' : Gp} {m : Int} {s : St} {T : List Int} {b : Bool} (h : fiR g m s = (g', T, b)) : g'.P.length ≤ g.P.length ∧ g'.D.length ≤ g.D.length + g.P.length ∧ T.length ≤ g.P.length := by
  unfold fiR at h
  split at h
  · unfold fiA at h
    split at h
    · rename_i hf
      simp only [Prod.mk.injEq] at h
      have h1 := h.1
      have h2 := h.2.1
      rw [← h1, ← h2]
      simp only [fiOk, Bool.and_eq_true, decide_eq_true_eq] at hf
      have h3 := (plI_ge hf.1.1.1).1
      have h4 : (ins g.P m s).length = g.P.length := ins_len rfl h3
      have h5 := congrArg List.length (tld_lft (ins g.P m s))
      rw [List.length_append] at h5
      refine ⟨?_, ?_, ?_⟩
      · show (lft (ins g.P m s)).length ≤ _; omega
      · show (g.D ++ tld (ins g.P m s)).length ≤ _; rw [List.length_append]; omega
      · rw [msgs_len]; omega
    · simp only [Prod.mk.injEq] at h
      rw [← h.1, ← h.2.1]; exact ⟨by omega, by omega, by simp⟩
  · simp only [Prod.mk.injEq] at h
    rw [← h.1, ← h.2.1]; exact ⟨by simp [gp0], by simp [gp0], by simp⟩

set_option maxHeartbeats 2000000 in
theorem markGroup_own {lo hi n1 c1 n2 c2 : Nat} {A1 A2 : Option Addr} {P D : List En} (i k k0 : Int) (w : World) (h : Lg w lo hi A1 n1 c1 A2 n2 c2 P D) (hn1 : n1 < 1099511627776) (hn2 : n2 < 1099511627776) (hk0 : 0 ≤ k0) (hk1 : k0 < 1099511627776) :
    Calls Try.prog 13 #[gpV i k (.slice A1 n1 c1) (.slice A2 n2 c2), .int .i64 k0] w fun e w' => e = .returned (.int .i64 (k0 + 4 * (n1 : Int) + 4 * (n2 : Int))) ∧ Lg w' lo hi A1 n1 c1 A2 n2 c2 (marksE k0 n1) (marksE (k0 + 4 * (n1 : Int)) n2) ∧ Kp (fun b => (Value.slice A1 n1 c1).ownBlock = some b ∨ (Value.slice A2 n2 c2).ownBlock = some b) w w' := by
  have B := hid (below1 w (.cells #[.int .i64 i, .int .i64 k, .slice A1 n1 c1, .slice A2 n2 c2] 24))
  have C := hid (Cs.new w 24 #[.int .i64 i, .int .i64 k, .slice A1 n1 c1, .slice A2 n2 c2])
  have O := hid (h.ow.below B.out)
  have hbs := hid h.hb
  have hhi := h.hi
  have hlo1 := hid (fun b hb => (h.ow.op.lt b hb).1 : ∀ b, (Value.slice A1 n1 c1).ownBlock = some b → lo ≤ b)
  have hlo2 := hid (fun b hb => (h.ow.od.lt b hb).1 : ∀ b, (Value.slice A2 n2 c2).ownBlock = some b → lo ≤ b)
  clear h
  go_enter Try.func13, Try.ntmps13
  go_wp2_with fail
  refine (markEntryS_any k0 _ O.out.op O.out.l1 hn1 hk0 (by omega)).mono ?_
  rintro e w1 ⟨rfl, o1, g1, s1⟩
  have K1 := hid ((Kp.refl (fun b => (Value.slice A1 n1 c1).ownBlock = some b) _).grown g1 (fun j e => .inr e))
  have C1 := hid (C.out.kp K1.out (fun e => by have := hbs.out _ (.inl e); omega))
  have O2 := hid (K1.out.own O.out.od (fun j e h1 => O.out.ne j h1 e))
  have O1 := hid o1
  have L2 := hid O.out.l2
  have NE := hid O.out.ne
  have KK := hid ((Kp.of_below (S := fun b => (Value.slice A1 n1 c1).ownBlock = some b ∨ (Value.slice A2 n2 c2).ownBlock = some b) B.out).trans K1.out (fun j hj e => .inl e))
  obtain ⟨c0, c1', c2', c3⟩ := C1.out.four
  clear g1 o1 K1 C O B s1
  go_wp2_with fail
  refine (markEntryS_any (k0 + 4 * (n1 : Int)) _ O2.out L2.out hn2 (by omega) (by omega)).mono ?_
  rintro e w2 ⟨rfl, o2, g2, s2⟩
  have K2 := hid ((Kp.refl (fun b => (Value.slice A2 n2 c2).ownBlock = some b) _).grown g2 (fun j e => .inr e))
  have P1 := hid (K2.out.own O1.out (fun j e h2 => NE.out j e h2))
  have KF := hid (KK.out.trans K2.out (fun j hj e => .inr e))
  have HF := hid (show Lg w2 lo hi A1 n1 c1 A2 n2 c2 (marksE k0 n1) (marksE (k0 + 4 * (n1 : Int)) n2) from ⟨⟨P1.out, o2, marksE_len _ _, marksE_len _ _, NE.out⟩, hbs.out, Nat.le_trans hhi KF.out.size⟩)
  clear g2 o2 K2 O1 O2 KK C1 c0 c1' c2' c3 P1 s2
  go_wp2
  go_ret
  exact ⟨rfl, HF.out, KF.out⟩

set_option maxRecDepth 100000 in
set_option maxHeartbeats 16000000 in
theorem exGroupFinal {n c m d : Nat} {A B : Option Addr} {P D : List En} (i k msg st sg : Int) (w : World) (h1 : RdX w A n P) (hn : n ≤ maxLen) (h2 : RdX w B m D) (hm : m ≤ maxLen) :
    Calls Try.prog 6 #[gpV i k (.slice A n c) (.slice B m d), .int .i64 msg, two st sg] w fun e w' => e = .returned (.bool true) ∧ Below w.heap.size w w' := by
  unfold maxLen at hn hm
  have hx1 := hid h1
  have hx2 := hid h2
  have hlP := hid h1.1
  have hlD := hid h2.1
  clear h1 h2
  obtain ⟨u0, hu0⟩ : ∃ W, (w.alloc (.cells #[.int .i64 i, .int .i64 k, .slice A n c, .slice B m d] 32)).alloc (.cells #[.int .i64 st, .int .i64 sg] 43) = W := ⟨_, rfl⟩
  have B_0 := hid (show Below w.heap.size w u0 by rw [← hu0]; exact below2 _ _ _)
  have Ka_0 := hid (show Cs u0 w.heap.size 32 #[.int .i64 i, .int .i64 k, .slice A n c, .slice B m d] by rw [← hu0]; exact (Cs.new _ _ _).alloc _)
  have Ks_0 := hid (show Cs u0 (w.heap.size + 1) 43 #[.int .i64 st, .int .i64 sg] by rw [← hu0]; exact Cs.new' _ _ _ (by simp))
  have ys_0 : w.heap.size + 1 < u0.heap.size := Ks_0.out.lt
  have ya_0 : w.heap.size < u0.heap.size := Ka_0.out.lt
  replace hu0 := hid hu0
  by_cases hbig : n + m ≤ 1048576
  · have hz : (if n + m ≤ 1048576 then 1048576 - (n : Int) - (m : Int) else -1) = 1048576 - (n : Int) - (m : Int) := if_pos hbig
    have hnn : n < 1099511627776 := by omega
    have hmm : m < 1099511627776 := by omega
    have gz : ¬ (1048576 - (n : Int) - (m : Int) < 0) := by omega
    replace hz := hid hz
    obtain ⟨id', ck', P', D', T, b', hR⟩ : ∃ id' ck' P' D' T b', fiR ⟨i, k, P, D⟩ msg (st, sg) = (⟨id', ck', P', D'⟩, T, b') := ⟨_, _, _, _, _, _, rfl⟩
    have hPl : P'.length ≤ n := by have := (fiR_len hR).1; simp only [hlP.out] at this; exact this
    have hDl : D'.length ≤ m + n := by have := (fiR_len hR).2.1; simp only [hlP.out, hlD.out] at this; exact this
    have hTl : T.length ≤ n := by have := (fiR_len hR).2.2; simp only [hlP.out] at this; exact this
    replace hR := hid hR
    go_enter Try.func6, Try.ntmps6
    go_upto_region 2 with (fail)
    rw [hu0.out]
    obtain ⟨qa0, qa1, qa2, qa3⟩ := Ka_0.out.four
    go_wp2_with fail
    refine (szGroup_any i k _ (by omega) (by omega) hz.out).mono ?_
    rintro e u1 ⟨rfl, hb⟩
    clear qa0 qa1 qa2 qa3
    have hb_1 := hid hb
    have Ka_1 := hid (Ka_0.out.step hb_1.out)
    have Ks_1 := hid (Ks_0.out.step hb_1.out)
    have B_1 := hid (B_0.out.trans (hb_1.out.mono (by omega)))
    have z_1 : u0.heap.size ≤ u1.heap.size := hb_1.out.size
    clear Ka_0 Ks_0 B_0
    clear hb_1
    clear hb
    have hNN : n + m + 1 < 1099511627776 := by omega
    have hbb : (b' != b') = false := by cases b' <;> rfl
    go_upto_region 5 with (fail)
    go_cut [8, 9, 10] (fun v o q wx => CutF u1 wx id' ck' P' D' T b' v o q)
    case first =>
      have KA : Hid (∀ X, Below u1.heap.size u1 X → (X.cell? ⟨w.heap.size, 0, none⟩ = some (.int .i64 i) ∧ X.cell? ⟨w.heap.size, 1, none⟩ = some (.int .i64 k) ∧ X.cell? ⟨w.heap.size, 2, none⟩ = some (.slice A n c) ∧ X.cell? ⟨w.heap.size, 3, none⟩ = some (.slice B m d)) ∧ X.cell? ⟨(w.heap.size + 1), 0, none⟩ = some (.int .i64 st) ∧ X.cell? ⟨(w.heap.size + 1), 1, none⟩ = some (.int .i64 sg)) := hid (fun X h => ⟨(Ka_1.out.step h).four, (Ks_1.out.step h).two.1, (Ks_1.out.step h).two.2.1⟩)
      have D0 := hid (show Below u1.heap.size u1 u1.drew from (Below.refl _ _).drew)
      have DZ := hid (show Below u1.heap.size u1 (u1.alloc (.cells #[.int .i64 0, .int .i64 0, .slice none 0 0, .slice none 0 0] 24)).drew from (below1 _ _).drew)
      have CZ := hid (show Cs (u1.alloc (.cells #[.int .i64 0, .int .i64 0, .slice none 0 0, .slice none 0 0] 24)).drew u1.heap.size 24 #[.int .i64 0, .int .i64 0, .slice none 0 0, .slice none 0 0] from Cs.new u1 _ _)
      have BD := hid (B_1.out.trans (D0.out.mono (by omega)))
      have BZ := hid (B_1.out.trans (DZ.out.mono (by omega)))
      go_region_held3 (fun w' => (w'.cell? ⟨w.heap.size, 0, none⟩ = some (.int .i64 i) ∧ w'.cell? ⟨w.heap.size, 1, none⟩ = some (.int .i64 k) ∧ w'.cell? ⟨w.heap.size, 2, none⟩ = some (.slice A n c) ∧ w'.cell? ⟨w.heap.size, 3, none⟩ = some (.slice B m d)) ∧ w'.cell? ⟨(w.heap.size + 1), 0, none⟩ = some (.int .i64 st) ∧ w'.cell? ⟨(w.heap.size + 1), 1, none⟩ = some (.int .i64 sg))
        (first | with_reducible exact KA.out _ D0.out | with_reducible exact KA.out _ DZ.out | with_reducible exact KA.out _ D1.out | with_reducible exact KA.out _ (D1.out.alloc D1.out.size _) | with_reducible exact KA.out _ D2.out | with_reducible exact KA.out _ (D2.out.alloc D2.out.size _) | with_reducible exact KA.out _ D3.out | with_reducible exact KA.out _ (D3.out.alloc D3.out.size _) | with_reducible exact KA.out _ ((((D3.out.setCell (p := ⟨_, 0, none⟩) zb _).setCell (p := ⟨_, 1, none⟩) zb _).setCell (p := ⟨_, 2, none⟩) zb _).setCell (p := ⟨_, 3, none⟩) zb _))
        (first | (go_at_call 17; (with_reducible refine (toGroup_any i k _ (hx1.out.below BZ.out) (hx2.out.below BZ.out) hnn hmm).mono ?_); rintro e X1 ⟨Ap, Bp, rfl, o1, hb1⟩; have D1 := hid (DZ.out.trans (hb1.mono DZ.out.size)); have z1 := hid (CZ.out.step hb1); have L1 := hid (Lg.of o1); have zb : u1.heap.size ≤ u1.heap.size := Nat.le_refl _; clear o1 hb1) | (go_at_call 17; (with_reducible refine (toGroup_any i k _ (hx1.out.below BD.out) (hx2.out.below BD.out) hnn hmm).mono ?_); rintro e X1 ⟨Ap, Bp, rfl, o1, hb1⟩; have D1 := hid (D0.out.trans (hb1.mono D0.out.size)); have L1 := hid (Lg.of o1); clear o1 hb1) | (go_at_call 23; (with_reducible refine (toStamp_any _ _ _).mono ?_); rintro e X2 ⟨rfl, hb2⟩; have z2 := hid (z1.out.step hb2); have D2 := hid (D1.out.trans (hb2.mono D1.out.size)); have L2 := hid (L1.out.step hb2); clear hb2) | (go_at_call 23; (with_reducible refine (toStamp_any _ _ _).mono ?_); rintro e X2 ⟨rfl, hb2⟩; have D2 := hid ((D1.out.alloc D1.out.size (.cells #[.int .i64 0, .int .i64 0, .slice none 0 0, .slice none 0 0] 24)).trans (hb2.mono (D1.out.alloc D1.out.size (.cells #[.int .i64 0, .int .i64 0, .slice none 0 0, .slice none 0 0] 24)).size)); have z2 := hid ((Cs.new X1 24 #[.int .i64 0, .int .i64 0, .slice none 0 0, .slice none 0 0]).step hb2); have zb : u1.heap.size ≤ X1.heap.size := D1.out.size; have L2 := hid ((L1.out.step (below1 X1 (.cells #[.int .i64 0, .int .i64 0, .slice none 0 0, .slice none 0 0] 24))).step hb2); clear hb2) | (go_at_call 23; (with_reducible refine (toStamp_any _ _ _).mono ?_); rintro e X2 ⟨rfl, hb2⟩; have D2 := hid (D1.out.trans (hb2.mono D1.out.size)); have L2 := hid (L1.out.step hb2); clear hb2) | (go_at_call 22; (with_reducible refine (GroupFinal_spec hR.out _ (L2.out.ow.rdg hnn hmm) hNN).mono ?_); rintro e X3 ⟨E1, f1, E2, f2, E3, f3, rfl, o3, i3, hb3⟩; have z3 := hid (z2.out.step hb3); have zlt := z2.out.lt; have D3 := hid (D2.out.trans (hb3.mono D2.out.size)); have o3 := hid o3; have i3 := hid i3; have hsz := D2.out.size; obtain ⟨zc0, zc1, zc2, zc3⟩ := z3.out.four; obtain ⟨zf0, zf1, zf2, zf3⟩ := z3.out.free4; clear hb3) | (go_at_call 22; (with_reducible refine (GroupFinal_spec hR.out _ ((L2.out.step (below1 X2 (.cells #[.int .i64 0, .int .i64 0, .slice none 0 0, .slice none 0 0] 24))).ow.rdg hnn hmm) hNN).mono ?_); rintro e X3 ⟨E1, f1, E2, f2, E3, f3, rfl, o3, i3, hb3⟩; have zlt : X2.heap.size < (X2.alloc (.cells #[.int .i64 0, .int .i64 0, .slice none 0 0, .slice none 0 0] 24)).heap.size := (Cs.new X2 24 #[.int .i64 0, .int .i64 0, .slice none 0 0, .slice none 0 0]).lt; have z3 := hid ((Cs.new X2 24 #[.int .i64 0, .int .i64 0, .slice none 0 0, .slice none 0 0]).step hb3); have D3 := hid ((D2.out.alloc D2.out.size (.cells #[.int .i64 0, .int .i64 0, .slice none 0 0, .slice none 0 0] 24)).trans (hb3.mono (D2.out.alloc D2.out.size (.cells #[.int .i64 0, .int .i64 0, .slice none 0 0, .slice none 0 0] 24)).size)); have zb : u1.heap.size ≤ X2.heap.size := D2.out.size; have o3 := hid o3; have i3 := hid i3; obtain ⟨zc0, zc1, zc2, zc3⟩ := z3.out.four; obtain ⟨zf0, zf1, zf2, zf3⟩ := z3.out.free4; clear hb3) | (go_at_call 22; (with_reducible refine (GroupFinal_spec hR.out _ (L2.out.ow.rdg hnn hmm) hNN).mono ?_); rintro e X3 ⟨E1, f1, E2, f2, E3, f3, rfl, o3, i3, hb3⟩; have D3 := hid (D2.out.trans (hb3.mono D2.out.size)); have o3 := hid o3; have i3 := hid i3; have hsz := D2.out.size; clear hb3))
      all_goals
        go_wp2
        go_meet
        first
          | exact CutF.old D3.out z3.out zb zlt o3.out i3.out
          | exact CutF.fresh D3.out hsz o3.out i3.out
    case rest =>
      obtain ⟨bw, Aw, cw, Ew, ew, Fw, fw, rfl, rfl, rfl, hb, hbxw, hc, ho, hi⟩ := hcut
      obtain ⟨u2, rfl⟩ : ∃ W, W = wc := ⟨_, rfl⟩
      have hb_2 := hid hb.out
      have Ka_2 := hid (Ka_1.out.step hb_2.out)
      have Ks_2 := hid (Ks_1.out.step hb_2.out)
      have B_2 := hid (B_1.out.trans (hb_2.out.mono (by omega)))
      have z_2 : u1.heap.size ≤ u2.heap.size := hb_2.out.size
      clear Ka_1 Ks_1 B_1
      clear hb_2
      clear hb
      have hblw : bw < u2.heap.size := hc.out.lt
      have Kw_2 := hc
      clear hc
      have Lw_2 := hid (Lg.of ho.out)
      clear ho
      have Nw_2 := hid (Lv.ofI hi.out)
      clear hi
      obtain ⟨qa0, qa1, qa2, qa3⟩ := Ka_2.out.four
      go_wp2_with fail
      refine (toGroup_any i k _ (hx1.out.below B_2.out) (hx2.out.below B_2.out) hnn hmm).mono ?_
      rintro e u3 ⟨Ax, Bx, rfl, ox, hb⟩
      clear qa0 qa1 qa2 qa3
      have hb_3 := hid hb
      have Ka_3 := hid (Ka_2.out.step hb_3.out)
      have Ks_3 := hid (Ks_2.out.step hb_3.out)
      have Kw_3 := hid (Kw_2.out.step hb_3.out)
      have Lw_3 := hid (Lw_2.out.step hb_3.out)
      have Nw_3 := hid (Nw_2.out.step hb_3.out)
      have B_3 := hid (B_2.out.trans (hb_3.out.mono (by omega)))
      have z_3 : u2.heap.size ≤ u3.heap.size := hb_3.out.size
      clear Ka_2 Ks_2 Kw_2 Lw_2 Nw_2 B_2
      clear hb_3
      clear hb
      have Lx_3 := hid (Lg.of ox)
      clear ox
      go_upto_region 7 with (fail)
      obtain ⟨u4, hu⟩ : ∃ W, (u3.alloc (.cells #[.int .i64 i, .int .i64 k, .slice Ax n n, .slice Bx m m] 24)) = W := ⟨_, rfl⟩
      rw [hu]
      have hb : Below u3.heap.size u3 u4 := by rw [← hu]; exact below1 _ _
      have hcx : Cs u4 (u3.heap.size) 24 #[.int .i64 i, .int .i64 k, .slice Ax n n, .slice Bx m m] := by rw [← hu]; exact Cs.new _ _ _
      clear hu
      have hb_4 := hid hb
      have Ka_4 := hid (Ka_3.out.step hb_4.out)
      have Ks_4 := hid (Ks_3.out.step hb_4.out)
      have Kw_4 := hid (Kw_3.out.step hb_4.out)
      have Lw_4 := hid (Lw_3.out.step hb_4.out)
      have Lx_4 := hid (Lx_3.out.step hb_4.out)
      have Nw_4 := hid (Nw_3.out.step hb_4.out)
      have B_4 := hid (B_3.out.trans (hb_4.out.mono (by omega)))
      have z_4 : u3.heap.size ≤ u4.heap.size := hb_4.out.size
      clear Ka_3 Ks_3 Kw_3 Lw_3 Lx_3 Nw_3 B_3
      clear hb_4
      clear hb
      have Kx_4 := hid hcx
      have yx_4 : u3.heap.size < u4.heap.size := hcx.lt
      clear hcx
      go_upto_region 7 with (fail)
      go_cut [12, 13, 14] (fun v o q wx => CutF u4 wx id' ck' P' D' T b' v o q)
      case first =>
        have KA : Hid (∀ X, Below u4.heap.size u4 X → (X.cell? ⟨u3.heap.size, 0, none⟩ = some (.int .i64 i) ∧ X.cell? ⟨u3.heap.size, 1, none⟩ = some (.int .i64 k) ∧ X.cell? ⟨u3.heap.size, 2, none⟩ = some (.slice Ax n n) ∧ X.cell? ⟨u3.heap.size, 3, none⟩ = some (.slice Bx m m)) ∧ X.cell? ⟨(w.heap.size + 1), 0, none⟩ = some (.int .i64 st) ∧ X.cell? ⟨(w.heap.size + 1), 1, none⟩ = some (.int .i64 sg)) := hid (fun X h => ⟨(Kx_4.out.step h).four, (Ks_4.out.step h).two.1, (Ks_4.out.step h).two.2.1⟩)
        have D0 := hid (show Below u4.heap.size u4 u4.drew from (Below.refl _ _).drew)
        have DZ := hid (show Below u4.heap.size u4 (u4.alloc (.cells #[.int .i64 0, .int .i64 0, .slice none 0 0, .slice none 0 0] 24)).drew from (below1 _ _).drew)
        have CZ := hid (show Cs (u4.alloc (.cells #[.int .i64 0, .int .i64 0, .slice none 0 0, .slice none 0 0] 24)).drew u4.heap.size 24 #[.int .i64 0, .int .i64 0, .slice none 0 0, .slice none 0 0] from Cs.new u4 _ _)
        have BD := hid (B_4.out.trans (D0.out.mono (by omega)))
        have BZ := hid (B_4.out.trans (DZ.out.mono (by omega)))
        skip
        go_region_held3 (fun w' => (w'.cell? ⟨u3.heap.size, 0, none⟩ = some (.int .i64 i) ∧ w'.cell? ⟨u3.heap.size, 1, none⟩ = some (.int .i64 k) ∧ w'.cell? ⟨u3.heap.size, 2, none⟩ = some (.slice Ax n n) ∧ w'.cell? ⟨u3.heap.size, 3, none⟩ = some (.slice Bx m m)) ∧ w'.cell? ⟨(w.heap.size + 1), 0, none⟩ = some (.int .i64 st) ∧ w'.cell? ⟨(w.heap.size + 1), 1, none⟩ = some (.int .i64 sg))
          (first | with_reducible exact KA.out _ D0.out | with_reducible exact KA.out _ DZ.out | with_reducible exact KA.out _ D1.out | with_reducible exact KA.out _ (D1.out.alloc D1.out.size _) | with_reducible exact KA.out _ D2.out | with_reducible exact KA.out _ (D2.out.alloc D2.out.size _) | with_reducible exact KA.out _ D3.out | with_reducible exact KA.out _ (D3.out.alloc D3.out.size _) | with_reducible exact KA.out _ ((((D3.out.setCell (p := ⟨_, 0, none⟩) zb _).setCell (p := ⟨_, 1, none⟩) zb _).setCell (p := ⟨_, 2, none⟩) zb _).setCell (p := ⟨_, 3, none⟩) zb _))
          (first | (go_at_call 23; (with_reducible refine (toStamp_any _ _ _).mono ?_); rintro e X2 ⟨rfl, hb2⟩; have z2 := hid (CZ.out.step hb2); have D2 := hid (DZ.out.trans (hb2.mono DZ.out.size)); have zb : u4.heap.size ≤ u4.heap.size := Nat.le_refl _; have L2 := hid (Lx_4.out.step D2.out); clear hb2) | (go_at_call 23; (with_reducible refine (toStamp_any _ _ _).mono ?_); rintro e X2 ⟨rfl, hb2⟩; have D2 := hid (D0.out.trans (hb2.mono D0.out.size)); have L2 := hid (Lx_4.out.step D2.out); clear hb2) | (go_at_call 24; (with_reducible refine (GroupFinal_impl hR.out _ (L2.out.ow.rdg hnn hmm) hNN).mono ?_); rintro e X3 ⟨E1, f1, E2, f2, E3, f3, rfl, o3, i3, hb3⟩; have z3 := hid (z2.out.step hb3); have zlt := z2.out.lt; have D3 := hid (D2.out.trans (hb3.mono D2.out.size)); have o3 := hid o3; have i3 := hid i3; have hsz := D2.out.size; obtain ⟨zc0, zc1, zc2, zc3⟩ := z3.out.four; obtain ⟨zf0, zf1, zf2, zf3⟩ := z3.out.free4; clear hb3) | (go_at_call 24; (with_reducible refine (GroupFinal_impl hR.out _ ((L2.out.step (below1 X2 (.cells #[.int .i64 0, .int .i64 0, .slice none 0 0, .slice none 0 0] 24))).ow.rdg hnn hmm) hNN).mono ?_); rintro e X3 ⟨E1, f1, E2, f2, E3, f3, rfl, o3, i3, hb3⟩; have zlt : X2.heap.size < (X2.alloc (.cells #[.int .i64 0, .int .i64 0, .slice none 0 0, .slice none 0 0] 24)).heap.size := (Cs.new X2 24 #[.int .i64 0, .int .i64 0, .slice none 0 0, .slice none 0 0]).lt; have z3 := hid ((Cs.new X2 24 #[.int .i64 0, .int .i64 0, .slice none 0 0, .slice none 0 0]).step hb3); have D3 := hid ((D2.out.alloc D2.out.size (.cells #[.int .i64 0, .int .i64 0, .slice none 0 0, .slice none 0 0] 24)).trans (hb3.mono (D2.out.alloc D2.out.size (.cells #[.int .i64 0, .int .i64 0, .slice none 0 0, .slice none 0 0] 24)).size)); have zb : u4.heap.size ≤ X2.heap.size := D2.out.size; have o3 := hid o3; have i3 := hid i3; obtain ⟨zc0, zc1, zc2, zc3⟩ := z3.out.four; obtain ⟨zf0, zf1, zf2, zf3⟩ := z3.out.free4; clear hb3) | (go_at_call 24; (with_reducible refine (GroupFinal_impl hR.out _ (L2.out.ow.rdg hnn hmm) hNN).mono ?_); rintro e X3 ⟨E1, f1, E2, f2, E3, f3, rfl, o3, i3, hb3⟩; have D3 := hid (D2.out.trans (hb3.mono D2.out.size)); have o3 := hid o3; have i3 := hid i3; have hsz := D2.out.size; clear hb3))
        all_goals
          go_wp2
          go_meet
          first
            | exact CutF.old D3.out z3.out zb zlt o3.out i3.out
            | exact CutF.fresh D3.out hsz o3.out i3.out
      case rest =>
        obtain ⟨bg, Ag, cg, Eg, eg, Fg, fg, rfl, rfl, rfl, hb, hbxg, hc, ho, hi⟩ := hcut
        obtain ⟨u5, rfl⟩ : ∃ W, W = wc := ⟨_, rfl⟩
        have hb_5 := hid hb.out
        have Ka_5 := hid (Ka_4.out.step hb_5.out)
        have Ks_5 := hid (Ks_4.out.step hb_5.out)
        have Kw_5 := hid (Kw_4.out.step hb_5.out)
        have Kx_5 := hid (Kx_4.out.step hb_5.out)
        have Lw_5 := hid (Lw_4.out.step hb_5.out)
        have Lx_5 := hid (Lx_4.out.step hb_5.out)
        have Nw_5 := hid (Nw_4.out.step hb_5.out)
        have B_5 := hid (B_4.out.trans (hb_5.out.mono (by omega)))
        have z_5 : u4.heap.size ≤ u5.heap.size := hb_5.out.size
        clear Ka_4 Ks_4 Kw_4 Kx_4 Lw_4 Lx_4 Nw_4 B_4
        clear hb_5
        clear hb
        have hblg : bg < u5.heap.size := hc.out.lt
        have Kg_5 := hc
        clear hc
        have Lg_5 := hid (Lg.of ho.out)
        clear ho
        have Ng_5 := hid (Lv.ofI hi.out)
        clear hi
        obtain ⟨qg0, qg1, qg2, qg3⟩ := Kg_5.out.four
        obtain ⟨qw0, qw1, qw2, qw3⟩ := Kw_5.out.four
        go_wp2_with fail
        refine (eqGroup_same id' ck' _ Lg_5.out.r1 Lg_5.out.r2 Lw_5.out.r1 Lw_5.out.r2 (by omega) (by omega)).mono ?_
        rintro e u6 ⟨rfl, hb⟩
        clear qg0 qg1 qg2 qg3 qw0 qw1 qw2 qw3
        have hb_6 := hid hb
        have Ka_6 := hid (Ka_5.out.step hb_6.out)
        have Ks_6 := hid (Ks_5.out.step hb_6.out)
        have Kw_6 := hid (Kw_5.out.step hb_6.out)
        have Kx_6 := hid (Kx_5.out.step hb_6.out)
        have Kg_6 := hid (Kg_5.out.step hb_6.out)
        have Lw_6 := hid (Lw_5.out.step hb_6.out)
        have Lx_6 := hid (Lx_5.out.step hb_6.out)
        have Lg_6 := hid (Lg_5.out.step hb_6.out)
        have Nw_6 := hid (Nw_5.out.step hb_6.out)
        have Ng_6 := hid (Ng_5.out.step hb_6.out)
        have B_6 := hid (B_5.out.trans (hb_6.out.mono (by omega)))
        have z_6 : u5.heap.size ≤ u6.heap.size := hb_6.out.size
        clear Ka_5 Ks_5 Kw_5 Kx_5 Kg_5 Lw_5 Lx_5 Lg_5 Nw_5 Ng_5 B_5
        clear hb_6
        clear hb
        go_wp2_with fail
        refine (eqIntS_any _ Ng_6.out.at_ Nw_6.out.at_ (by omega) (by omega)).mono ?_
        rw [sameB_selfG]
        rintro e u7 ⟨rfl, hq⟩
        have hb_7 := hid (hq.below u6.heap.size)
        have Ka_7 := hid (Ka_6.out.step hb_7.out)
        have Ks_7 := hid (Ks_6.out.step hb_7.out)
        have Kw_7 := hid (Kw_6.out.step hb_7.out)
        have Kx_7 := hid (Kx_6.out.step hb_7.out)
        have Kg_7 := hid (Kg_6.out.step hb_7.out)
        have Lw_7 := hid (Lw_6.out.step hb_7.out)
        have Lx_7 := hid (Lx_6.out.step hb_7.out)
        have Lg_7 := hid (Lg_6.out.step hb_7.out)
        have Nw_7 := hid (Nw_6.out.step hb_7.out)
        have Ng_7 := hid (Ng_6.out.step hb_7.out)
        have B_7 := hid (B_6.out.trans (hb_7.out.mono (by omega)))
        have z_7 : u6.heap.size ≤ u7.heap.size := hb_7.out.size
        clear Ka_6 Ks_6 Kw_6 Kx_6 Kg_6 Lw_6 Lx_6 Lg_6 Nw_6 Ng_6 B_6
        clear hb_7
        clear hq
        have hd := hid (Below.refl u7.heap.size u7).drew
        have Ka_d := hid (Ka_7.out.step hd.out)
        have Ks_d := hid (Ks_7.out.step hd.out)
        have Kw_d := hid (Kw_7.out.step hd.out)
        have Kx_d := hid (Kx_7.out.step hd.out)
        have Kg_d := hid (Kg_7.out.step hd.out)
        have Lw_d := hid (Lw_7.out.step hd.out)
        have Lx_d := hid (Lx_7.out.step hd.out)
        have Lg_d := hid (Lg_7.out.step hd.out)
        have Nw_d := hid (Nw_7.out.step hd.out)
        have Ng_d := hid (Ng_7.out.step hd.out)
        have B_d := hid (B_7.out.trans (hd.out.mono (by omega)))
        have z_d : u7.heap.size ≤ u7.drew.heap.size := hd.out.size
        have qe0 := And.intro Kx_d.out.four Ka_d.out.four
        have qf0 := And.intro Kx_7.out.four Ka_7.out.four
        go_wp2_with fail
        go_region_held3 (fun w' => (w'.cell? ⟨u3.heap.size, 0, none⟩ = some (.int .i64 i) ∧ w'.cell? ⟨u3.heap.size, 1, none⟩ = some (.int .i64 k) ∧ w'.cell? ⟨u3.heap.size, 2, none⟩ = some (.slice Ax n n) ∧ w'.cell? ⟨u3.heap.size, 3, none⟩ = some (.slice Bx m m)) ∧ w'.cell? ⟨w.heap.size, 0, none⟩ = some (.int .i64 i) ∧ w'.cell? ⟨w.heap.size, 1, none⟩ = some (.int .i64 k) ∧ w'.cell? ⟨w.heap.size, 2, none⟩ = some (.slice A n c) ∧ w'.cell? ⟨w.heap.size, 3, none⟩ = some (.slice B m d))
          (first | with_reducible exact qe0 | with_reducible exact qe1 | with_reducible exact qe2 | with_reducible exact qf0 | go_keep)
          (first | (go_at_call 17; (refine (toGroup_any i k _ (hx1.out.below B_d.out) (hx2.out.below B_d.out) hnn hmm).mono ?_); rintro e ud ⟨Ad, Bd, rfl, od, hb⟩; have Ka_e := hid (Ka_d.out.step hb); have Ks_e := hid (Ks_d.out.step hb); have Kw_e := hid (Kw_d.out.step hb); have Kx_e := hid (Kx_d.out.step hb); have Kg_e := hid (Kg_d.out.step hb); have Lw_e := hid (Lw_d.out.step hb); have Lx_e := hid (Lx_d.out.step hb); have Lg_e := hid (Lg_d.out.step hb); have Nw_e := hid (Nw_d.out.step hb); have Ng_e := hid (Ng_d.out.step hb); have B_e := hid (B_d.out.trans (hb.mono (by omega))); have z_e := hb.size; have Ld_e := hid (Lg.of od); have qe1 := And.intro Kx_e.out.four Ka_e.out.four; clear hb od) | (go_at_call 12; (refine (eqGroup_same i k _ Lx_e.out.r1 Lx_e.out.r2 Ld_e.out.r1 Ld_e.out.r2 (by omega) (by omega)).mono ?_); rintro e u8 ⟨rfl, hb⟩; have Ka_8 := hid (Ka_e.out.step hb); have Ks_8 := hid (Ks_e.out.step hb); have Kw_8 := hid (Kw_e.out.step hb); have Kx_8 := hid (Kx_e.out.step hb); have Kg_8 := hid (Kg_e.out.step hb); have Lw_8 := hid (Lw_e.out.step hb); have Lx_8 := hid (Lx_e.out.step hb); have Lg_8 := hid (Lg_e.out.step hb); have Nw_8 := hid (Nw_e.out.step hb); have Ng_8 := hid (Ng_e.out.step hb); have B_8 := hid (B_e.out.trans (hb.mono (by omega))); have z_8 : u7.heap.size ≤ u8.heap.size := Nat.le_trans z_d (Nat.le_trans z_e hb.size); have qe2 := And.intro Kx_8.out.four Ka_8.out.four; clear hb))
        clear qe0 qf0 qe1 qe2 hd B_d B_e Ld_e z_d z_e
        clear Ka_d Ks_d Kw_d Kx_d Kg_d Lw_d Lx_d Lg_d Nw_d Ng_d
        clear Ka_e Ks_e Kw_e Kx_e Kg_e Lw_e Lx_e Lg_e Nw_e Ng_e
        clear Ka_7 Ks_7 Kw_7 Kx_7 Kg_7 Lw_7 Lx_7 Lg_7 Nw_7 Ng_7 B_7
        obtain ⟨qx0, qx1, qx2, qx3⟩ := Kx_8.out.four
        go_wp2_with fail
        refine (markGroup_any i k 1 _ Lx_8.out (by omega) (by omega) (by omega) (by omega)).mono ?_
        rintro e u9 ⟨rfl, hL, hK⟩
        clear qx0 qx1 qx2 qx3
        have hk_9 := hid hK
        have z_9 : u8.heap.size ≤ u9.heap.size := hk_9.out.size
        have Ka_9 := hid (Ka_8.out.kp hk_9.out (fun (h : u2.heap.size ≤ w.heap.size ∧ w.heap.size < u3.heap.size) => by omega))
        have Ks_9 := hid (Ks_8.out.kp hk_9.out (fun (h : u2.heap.size ≤ (w.heap.size + 1) ∧ (w.heap.size + 1) < u3.heap.size) => by omega))
        have Kw_9 := hid (Kw_8.out.kp hk_9.out (fun (h : u2.heap.size ≤ bw ∧ bw < u3.heap.size) => by omega))
        have Kx_9 := hid (Kx_8.out.kp hk_9.out (fun (h : u2.heap.size ≤ u3.heap.size ∧ u3.heap.size < u3.heap.size) => by omega))
        have Kg_9 := hid (Kg_8.out.kp hk_9.out (fun (h : u2.heap.size ≤ bg ∧ bg < u3.heap.size) => by omega))
        have Lw_9 := hid (Lw_8.out.kp hk_9.out (fun b h1 h2 (h3 : u2.heap.size ≤ b ∧ b < u3.heap.size) => by omega))
        have Lg_9 := hid (Lg_8.out.kp hk_9.out (fun b h1 h2 (h3 : u2.heap.size ≤ b ∧ b < u3.heap.size) => by omega))
        have Nw_9 := hid (Nw_8.out.kp hk_9.out (fun b h1 h2 (h3 : u2.heap.size ≤ b ∧ b < u3.heap.size) => by omega))
        have Ng_9 := hid (Ng_8.out.kp hk_9.out (fun b h1 h2 (h3 : u2.heap.size ≤ b ∧ b < u3.heap.size) => by omega))
        have B_9 := hid (B_8.out.trans (hk_9.out.base (by omega) (fun b (h : u2.heap.size ≤ b ∧ b < u3.heap.size) => by omega)))
        clear Ka_8 Ks_8 Kw_8 Kx_8 Kg_8 Lw_8 Lx_8 Lg_8 Nw_8 Ng_8 B_8
        clear hk_9
        have Lx_9 := hid hL
        clear hL hK
        have gk : ¬ (1 + 4 * (n : Int) + 4 * (m : Int) < 0) := by omega
        obtain ⟨qg0, qg1, qg2, qg3⟩ := Kg_9.out.four
        obtain ⟨qw0, qw1, qw2, qw3⟩ := Kw_9.out.four
        go_wp2_with fail
        refine (eqGroup_same id' ck' _ Lg_9.out.r1 Lg_9.out.r2 Lw_9.out.r1 Lw_9.out.r2 (by omega) (by omega)).mono ?_
        rintro e u10 ⟨rfl, hb⟩
        clear qg0 qg1 qg2 qg3 qw0 qw1 qw2 qw3
        have hb_10 := hid hb
        have Ka_10 := hid (Ka_9.out.step hb_10.out)
        have Ks_10 := hid (Ks_9.out.step hb_10.out)
        have Kw_10 := hid (Kw_9.out.step hb_10.out)
        have Kx_10 := hid (Kx_9.out.step hb_10.out)
        have Kg_10 := hid (Kg_9.out.step hb_10.out)
        have Lw_10 := hid (Lw_9.out.step hb_10.out)
        have Lx_10 := hid (Lx_9.out.step hb_10.out)
        have Lg_10 := hid (Lg_9.out.step hb_10.out)
        have Nw_10 := hid (Nw_9.out.step hb_10.out)
        have Ng_10 := hid (Ng_9.out.step hb_10.out)
        have B_10 := hid (B_9.out.trans (hb_10.out.mono (by omega)))
        have z_10 : u9.heap.size ≤ u10.heap.size := hb_10.out.size
        clear Ka_9 Ks_9 Kw_9 Kx_9 Kg_9 Lw_9 Lx_9 Lg_9 Nw_9 Ng_9 B_9
        clear hb_10
        clear hb
        go_wp2_with fail
        refine (eqIntS_any _ Ng_10.out.at_ Nw_10.out.at_ (by omega) (by omega)).mono ?_
        rw [sameB_selfG]
        rintro e u11 ⟨rfl, hq⟩
        have hb_11 := hid (hq.below u10.heap.size)
        have Ka_11 := hid (Ka_10.out.step hb_11.out)
        have Ks_11 := hid (Ks_10.out.step hb_11.out)
        have Kw_11 := hid (Kw_10.out.step hb_11.out)
        have Kx_11 := hid (Kx_10.out.step hb_11.out)
        have Kg_11 := hid (Kg_10.out.step hb_11.out)
        have Lw_11 := hid (Lw_10.out.step hb_11.out)
        have Lx_11 := hid (Lx_10.out.step hb_11.out)
        have Lg_11 := hid (Lg_10.out.step hb_11.out)
        have Nw_11 := hid (Nw_10.out.step hb_11.out)
        have Ng_11 := hid (Ng_10.out.step hb_11.out)
        have B_11 := hid (B_10.out.trans (hb_11.out.mono (by omega)))
        have z_11 : u10.heap.size ≤ u11.heap.size := hb_11.out.size
        clear Ka_10 Ks_10 Kw_10 Kx_10 Kg_10 Lw_10 Lx_10 Lg_10 Nw_10 Ng_10 B_10
        clear hb_11
        clear hq
        clear Lx_11
        clear Kx_11
        obtain ⟨qg0, qg1, qg2, qg3⟩ := Kg_11.out.four
        go_wp2_with fail
        refine (markGroup_own id' ck' 1 _ Lg_11.out (by omega) (by omega) (by omega) (by omega)).mono ?_
        rintro e u12 ⟨rfl, hL, hK⟩
        clear qg0 qg1 qg2 qg3
        have hI := hid (fun b (h : (Value.slice Ag P'.length cg).ownBlock = some b ∨ (Value.slice Eg D'.length eg).ownBlock = some b) => (show u4.heap.size ≤ b ∧ b < u5.heap.size from h.elim (fun h => ⟨(Lg_11.out.ow.op.lt b h).1, Lg_11.out.hb b (.inl h)⟩) (fun h => ⟨(Lg_11.out.ow.od.lt b h).1, Lg_11.out.hb b (.inr h)⟩)))
        have hk := hid hK
        have z_12 : u11.heap.size ≤ u12.heap.size := hK.size
        have Ka_12 := hid (Ka_11.out.kp hk.out (fun h => by have := hI.out _ h; omega))
        have Ks_12 := hid (Ks_11.out.kp hk.out (fun h => by have := hI.out _ h; omega))
        have Kw_12 := hid (Kw_11.out.kp hk.out (fun h => by have := hI.out _ h; omega))
        have Kg_12 := hid (Kg_11.out.kp hk.out (fun h => h.elim (cs_type Kg_11.out Lg_11.out.ow.op (by decide)) (cs_type Kg_11.out Lg_11.out.ow.od (by decide))))
        have Lw_12 := hid (Lw_11.out.kp hk.out (fun b h1 h2 h3 => by have := hI.out _ h3; omega))
        have Nw_12 := hid (Nw_11.out.kp hk.out (fun b h1 h2 h3 => by have := hI.out _ h3; omega))
        have Ng_12 := hid (Ng_11.out.kpo hk.out (fun b hb h => h.elim (fun h => own_type Lg_11.out.ow.op Ng_11.out.1.1 (by decide) b h hb) (fun h => own_type Lg_11.out.ow.od Ng_11.out.1.1 (by decide) b h hb)))
        have B_12 := hid (B_11.out.trans (hk.out.base (by omega) (fun b h => by have := hI.out _ h; omega)))
        clear Ka_11 Ks_11 Kw_11 Kg_11 Lw_11 Lg_11 Nw_11 Ng_11 B_11
        clear hk hI hK
        have Lg_12 := hid hL
        clear hL
        go_wp2_with fail
        refine (markIntS_lv (1 + 4 * (P'.length : Int) + 4 * (D'.length : Int)) _ Ng_12.out (by omega) (by omega) (by omega)).mono ?_
        rintro e u13 ⟨rfl, hL, hG, -⟩
        have hk := hid ((Kp.refl (fun b => (Value.slice Fg T.length fg).ownBlock = some b) _).grown hG (fun j e => .inr e))
        have hI := hid (fun b (h : (Value.slice Fg T.length fg).ownBlock = some b) => (show u4.heap.size ≤ b ∧ b < u5.heap.size from ⟨(Ng_12.out.1.1.lt b h).1, Ng_12.out.1.2 b h⟩))
        have z_13 : u12.heap.size ≤ u13.heap.size := hk.out.size
        have Ka_13 := hid (Ka_12.out.kp hk.out (fun h => by have := hI.out _ h; omega))
        have Ks_13 := hid (Ks_12.out.kp hk.out (fun h => by have := hI.out _ h; omega))
        have Kw_13 := hid (Kw_12.out.kp hk.out (fun h => by have := hI.out _ h; omega))
        have Kg_13 := hid (Kg_12.out.kp hk.out (cs_type Kg_12.out Ng_12.out.1.1 (by decide)))
        have Lw_13 := hid (Lw_12.out.kp hk.out (fun b h1 h2 h3 => by have := hI.out _ h3; omega))
        have Lg_13 := hid (Lg_12.out.kpo hk.out (fun b hb h => own_type Lg_12.out.ow.op Ng_12.out.1.1 (by decide) b hb h) (fun b hb h => own_type Lg_12.out.ow.od Ng_12.out.1.1 (by decide) b hb h))
        have Nw_13 := hid (Nw_12.out.kp hk.out (fun b h1 h2 h3 => by have := hI.out _ h3; omega))
        have B_13 := hid (B_12.out.trans (hk.out.base (by omega) (fun b h => by have := hI.out _ h; omega)))
        clear Ka_12 Ks_12 Kw_12 Kg_12 Lw_12 Lg_12 Nw_12 Ng_12 B_12
        clear hk hI hG
        have Ng_13 := hid hL
        clear hL
        obtain ⟨qg0, qg1, qg2, qg3⟩ := Kg_13.out.four
        go_wp2_with fail
        refine (heldGroup_any id' ck' 1 _ Lg_13.out.r1 Lg_13.out.r2 (by omega) (by omega) (by omega) (by omega)).mono ?_
        rintro e u14 ⟨rfl, hb⟩
        clear qg0 qg1 qg2 qg3
        have hb_14 := hid hb
        have Ka_14 := hid (Ka_13.out.step hb_14.out)
        have Ks_14 := hid (Ks_13.out.step hb_14.out)
        have Kw_14 := hid (Kw_13.out.step hb_14.out)
        have Kg_14 := hid (Kg_13.out.step hb_14.out)
        have Lw_14 := hid (Lw_13.out.step hb_14.out)
        have Lg_14 := hid (Lg_13.out.step hb_14.out)
        have Nw_14 := hid (Nw_13.out.step hb_14.out)
        have Ng_14 := hid (Ng_13.out.step hb_14.out)
        have B_14 := hid (B_13.out.trans (hb_14.out.mono (by omega)))
        have z_14 : u13.heap.size ≤ u14.heap.size := hb_14.out.size
        clear Ka_13 Ks_13 Kw_13 Kg_13 Lw_13 Lg_13 Nw_13 Ng_13 B_13
        clear hb_14
        clear hb
        have gm : ¬ (1 + 4 * (P'.length : Int) + 4 * (D'.length : Int) < 0) := by omega
        have gm2 : ¬ (1 + 4 * (P'.length : Int) + 4 * (D'.length : Int) + (T.length : Int) < 0) := by omega
        go_wp2_with fail
        refine (heldIntS_any (1 + 4 * (P'.length : Int) + 4 * (D'.length : Int)) _ Ng_14.out.at_ (by omega) (by omega) (by omega)).mono ?_
        rintro e w_ ⟨rfl, rfl⟩
        go_upto_region 28 with (fail)
        go_cut [18, 19, 20] (fun v o q wx => CutF u14 wx id' ck' P' D' T b' v o q)
        case first =>
          have KA : Hid (∀ X, Below u14.heap.size u14 X → (X.cell? ⟨w.heap.size, 0, none⟩ = some (.int .i64 i) ∧ X.cell? ⟨w.heap.size, 1, none⟩ = some (.int .i64 k) ∧ X.cell? ⟨w.heap.size, 2, none⟩ = some (.slice A n c) ∧ X.cell? ⟨w.heap.size, 3, none⟩ = some (.slice B m d)) ∧ X.cell? ⟨(w.heap.size + 1), 0, none⟩ = some (.int .i64 st) ∧ X.cell? ⟨(w.heap.size + 1), 1, none⟩ = some (.int .i64 sg)) := hid (fun X h => ⟨(Ka_14.out.step h).four, (Ks_14.out.step h).two.1, (Ks_14.out.step h).two.2.1⟩)
          have D0 := hid (show Below u14.heap.size u14 u14.drew from (Below.refl _ _).drew)
          have DZ := hid (show Below u14.heap.size u14 (u14.alloc (.cells #[.int .i64 0, .int .i64 0, .slice none 0 0, .slice none 0 0] 24)).drew from (below1 _ _).drew)
          have CZ := hid (show Cs (u14.alloc (.cells #[.int .i64 0, .int .i64 0, .slice none 0 0, .slice none 0 0] 24)).drew u14.heap.size 24 #[.int .i64 0, .int .i64 0, .slice none 0 0, .slice none 0 0] from Cs.new u14 _ _)
          have BD := hid (B_14.out.trans (D0.out.mono (by omega)))
          have BZ := hid (B_14.out.trans (DZ.out.mono (by omega)))
          go_region_held3 (fun w' => (w'.cell? ⟨w.heap.size, 0, none⟩ = some (.int .i64 i) ∧ w'.cell? ⟨w.heap.size, 1, none⟩ = some (.int .i64 k) ∧ w'.cell? ⟨w.heap.size, 2, none⟩ = some (.slice A n c) ∧ w'.cell? ⟨w.heap.size, 3, none⟩ = some (.slice B m d)) ∧ w'.cell? ⟨(w.heap.size + 1), 0, none⟩ = some (.int .i64 st) ∧ w'.cell? ⟨(w.heap.size + 1), 1, none⟩ = some (.int .i64 sg))
            (first | with_reducible exact KA.out _ D0.out | with_reducible exact KA.out _ DZ.out | with_reducible exact KA.out _ D1.out | with_reducible exact KA.out _ (D1.out.alloc D1.out.size _) | with_reducible exact KA.out _ D2.out | with_reducible exact KA.out _ (D2.out.alloc D2.out.size _) | with_reducible exact KA.out _ D3.out | with_reducible exact KA.out _ (D3.out.alloc D3.out.size _) | with_reducible exact KA.out _ ((((D3.out.setCell (p := ⟨_, 0, none⟩) zb _).setCell (p := ⟨_, 1, none⟩) zb _).setCell (p := ⟨_, 2, none⟩) zb _).setCell (p := ⟨_, 3, none⟩) zb _))
            (first | (go_at_call 17; (with_reducible refine (toGroup_any i k _ (hx1.out.below BZ.out) (hx2.out.below BZ.out) hnn hmm).mono ?_); rintro e X1 ⟨Ay, By, rfl, o1, hb1⟩; have D1 := hid (DZ.out.trans (hb1.mono DZ.out.size)); have z1 := hid (CZ.out.step hb1); have L1 := hid (Lg.of o1); have zb : u14.heap.size ≤ u14.heap.size := Nat.le_refl _; clear o1 hb1) | (go_at_call 17; (with_reducible refine (toGroup_any i k _ (hx1.out.below BD.out) (hx2.out.below BD.out) hnn hmm).mono ?_); rintro e X1 ⟨Ay, By, rfl, o1, hb1⟩; have D1 := hid (D0.out.trans (hb1.mono D0.out.size)); have L1 := hid (Lg.of o1); clear o1 hb1) | (go_at_call 23; (with_reducible refine (toStamp_any _ _ _).mono ?_); rintro e X2 ⟨rfl, hb2⟩; have z2 := hid (z1.out.step hb2); have D2 := hid (D1.out.trans (hb2.mono D1.out.size)); have L2 := hid (L1.out.step hb2); clear hb2) | (go_at_call 23; (with_reducible refine (toStamp_any _ _ _).mono ?_); rintro e X2 ⟨rfl, hb2⟩; have D2 := hid ((D1.out.alloc D1.out.size (.cells #[.int .i64 0, .int .i64 0, .slice none 0 0, .slice none 0 0] 24)).trans (hb2.mono (D1.out.alloc D1.out.size (.cells #[.int .i64 0, .int .i64 0, .slice none 0 0, .slice none 0 0] 24)).size)); have z2 := hid ((Cs.new X1 24 #[.int .i64 0, .int .i64 0, .slice none 0 0, .slice none 0 0]).step hb2); have zb : u14.heap.size ≤ X1.heap.size := D1.out.size; have L2 := hid ((L1.out.step (below1 X1 (.cells #[.int .i64 0, .int .i64 0, .slice none 0 0, .slice none 0 0] 24))).step hb2); clear hb2) | (go_at_call 23; (with_reducible refine (toStamp_any _ _ _).mono ?_); rintro e X2 ⟨rfl, hb2⟩; have D2 := hid (D1.out.trans (hb2.mono D1.out.size)); have L2 := hid (L1.out.step hb2); clear hb2) | (go_at_call 24; (with_reducible refine (GroupFinal_impl hR.out _ (L2.out.ow.rdg hnn hmm) hNN).mono ?_); rintro e X3 ⟨E1, f1, E2, f2, E3, f3, rfl, o3, i3, hb3⟩; have z3 := hid (z2.out.step hb3); have zlt := z2.out.lt; have D3 := hid (D2.out.trans (hb3.mono D2.out.size)); have o3 := hid o3; have i3 := hid i3; have hsz := D2.out.size; obtain ⟨zc0, zc1, zc2, zc3⟩ := z3.out.four; obtain ⟨zf0, zf1, zf2, zf3⟩ := z3.out.free4; clear hb3) | (go_at_call 24; (with_reducible refine (GroupFinal_impl hR.out _ ((L2.out.step (below1 X2 (.cells #[.int .i64 0, .int .i64 0, .slice none 0 0, .slice none 0 0] 24))).ow.rdg hnn hmm) hNN).mono ?_); rintro e X3 ⟨E1, f1, E2, f2, E3, f3, rfl, o3, i3, hb3⟩; have zlt : X2.heap.size < (X2.alloc (.cells #[.int .i64 0, .int .i64 0, .slice none 0 0, .slice none 0 0] 24)).heap.size := (Cs.new X2 24 #[.int .i64 0, .int .i64 0, .slice none 0 0, .slice none 0 0]).lt; have z3 := hid ((Cs.new X2 24 #[.int .i64 0, .int .i64 0, .slice none 0 0, .slice none 0 0]).step hb3); have D3 := hid ((D2.out.alloc D2.out.size (.cells #[.int .i64 0, .int .i64 0, .slice none 0 0, .slice none 0 0] 24)).trans (hb3.mono (D2.out.alloc D2.out.size (.cells #[.int .i64 0, .int .i64 0, .slice none 0 0, .slice none 0 0] 24)).size)); have zb : u14.heap.size ≤ X2.heap.size := D2.out.size; have o3 := hid o3; have i3 := hid i3; obtain ⟨zc0, zc1, zc2, zc3⟩ := z3.out.four; obtain ⟨zf0, zf1, zf2, zf3⟩ := z3.out.free4; clear hb3) | (go_at_call 24; (with_reducible refine (GroupFinal_impl hR.out _ (L2.out.ow.rdg hnn hmm) hNN).mono ?_); rintro e X3 ⟨E1, f1, E2, f2, E3, f3, rfl, o3, i3, hb3⟩; have D3 := hid (D2.out.trans (hb3.mono D2.out.size)); have o3 := hid o3; have i3 := hid i3; have hsz := D2.out.size; clear hb3))
          all_goals
            go_wp2
            go_meet
            first
              | exact CutF.old D3.out z3.out zb zlt o3.out i3.out
              | exact CutF.fresh D3.out hsz o3.out i3.out
        case rest =>
          obtain ⟨bh, Ah, ch, Eh, eh, Fh, fh, rfl, rfl, rfl, hb, hbxh, hc, ho, hi⟩ := hcut
          obtain ⟨u15, rfl⟩ : ∃ W, W = wc := ⟨_, rfl⟩
          have hb_15 := hid hb.out
          have Ka_15 := hid (Ka_14.out.step hb_15.out)
          have Ks_15 := hid (Ks_14.out.step hb_15.out)
          have Kw_15 := hid (Kw_14.out.step hb_15.out)
          have Kg_15 := hid (Kg_14.out.step hb_15.out)
          have Lw_15 := hid (Lw_14.out.step hb_15.out)
          have Lg_15 := hid (Lg_14.out.step hb_15.out)
          have Nw_15 := hid (Nw_14.out.step hb_15.out)
          have Ng_15 := hid (Ng_14.out.step hb_15.out)
          have B_15 := hid (B_14.out.trans (hb_15.out.mono (by omega)))
          have z_15 : u14.heap.size ≤ u15.heap.size := hb_15.out.size
          clear Ka_14 Ks_14 Kw_14 Kg_14 Lw_14 Lg_14 Nw_14 Ng_14 B_14
          clear hb_15
          clear hb
          have hblh : bh < u15.heap.size := hc.out.lt
          have Kh_15 := hc
          clear hc
          have Lh_15 := hid (Lg.of ho.out)
          clear ho
          have Nh_15 := hid (Lv.ofI hi.out)
          clear hi
          obtain ⟨qh0, qh1, qh2, qh3⟩ := Kh_15.out.four
          obtain ⟨qw0, qw1, qw2, qw3⟩ := Kw_15.out.four
          go_wp2_with fail
          refine (eqGroup_same id' ck' _ Lh_15.out.r1 Lh_15.out.r2 Lw_15.out.r1 Lw_15.out.r2 (by omega) (by omega)).mono ?_
          rintro e u16 ⟨rfl, hb⟩
          clear qh0 qh1 qh2 qh3 qw0 qw1 qw2 qw3
          have hb_16 := hid hb
          have Ka_16 := hid (Ka_15.out.step hb_16.out)
          have Ks_16 := hid (Ks_15.out.step hb_16.out)
          have Kw_16 := hid (Kw_15.out.step hb_16.out)
          have Kg_16 := hid (Kg_15.out.step hb_16.out)
          have Kh_16 := hid (Kh_15.out.step hb_16.out)
          have Lw_16 := hid (Lw_15.out.step hb_16.out)
          have Lg_16 := hid (Lg_15.out.step hb_16.out)
          have Lh_16 := hid (Lh_15.out.step hb_16.out)
          have Nw_16 := hid (Nw_15.out.step hb_16.out)
          have Ng_16 := hid (Ng_15.out.step hb_16.out)
          have Nh_16 := hid (Nh_15.out.step hb_16.out)
          have B_16 := hid (B_15.out.trans (hb_16.out.mono (by omega)))
          have z_16 : u15.heap.size ≤ u16.heap.size := hb_16.out.size
          clear Ka_15 Ks_15 Kw_15 Kg_15 Kh_15 Lw_15 Lg_15 Lh_15 Nw_15 Ng_15 Nh_15 B_15
          clear hb_16
          clear hb
          go_wp2_with fail
          refine (eqIntS_any _ Nh_16.out.at_ Nw_16.out.at_ (by omega) (by omega)).mono ?_
          rw [sameB_selfG]
          rintro e u17 ⟨rfl, hq⟩
          have hb_17 := hid (hq.below u16.heap.size)
          have Ka_17 := hid (Ka_16.out.step hb_17.out)
          have Ks_17 := hid (Ks_16.out.step hb_17.out)
          have Kw_17 := hid (Kw_16.out.step hb_17.out)
          have Kg_17 := hid (Kg_16.out.step hb_17.out)
          have Kh_17 := hid (Kh_16.out.step hb_17.out)
          have Lw_17 := hid (Lw_16.out.step hb_17.out)
          have Lg_17 := hid (Lg_16.out.step hb_17.out)
          have Lh_17 := hid (Lh_16.out.step hb_17.out)
          have Nw_17 := hid (Nw_16.out.step hb_17.out)
          have Ng_17 := hid (Ng_16.out.step hb_17.out)
          have Nh_17 := hid (Nh_16.out.step hb_17.out)
          have B_17 := hid (B_16.out.trans (hb_17.out.mono (by omega)))
          have z_17 : u16.heap.size ≤ u17.heap.size := hb_17.out.size
          clear Ka_16 Ks_16 Kw_16 Kg_16 Kh_16 Lw_16 Lg_16 Lh_16 Nw_16 Ng_16 Nh_16 B_16
          clear hb_17
          clear hq
          obtain ⟨qg0, qg1, qg2, qg3⟩ := Kg_17.out.four
          go_wp2_with fail
          refine (heldGroup_any id' ck' 1 _ Lg_17.out.r1 Lg_17.out.r2 (by omega) (by omega) (by omega) (by omega)).mono ?_
          rintro e u18 ⟨rfl, hb⟩
          clear qg0 qg1 qg2 qg3
          have hb_18 := hid hb
          have Ka_18 := hid (Ka_17.out.step hb_18.out)
          have Ks_18 := hid (Ks_17.out.step hb_18.out)
          have Kw_18 := hid (Kw_17.out.step hb_18.out)
          have Kg_18 := hid (Kg_17.out.step hb_18.out)
          have Kh_18 := hid (Kh_17.out.step hb_18.out)
          have Lw_18 := hid (Lw_17.out.step hb_18.out)
          have Lg_18 := hid (Lg_17.out.step hb_18.out)
          have Lh_18 := hid (Lh_17.out.step hb_18.out)
          have Nw_18 := hid (Nw_17.out.step hb_18.out)
          have Ng_18 := hid (Ng_17.out.step hb_18.out)
          have Nh_18 := hid (Nh_17.out.step hb_18.out)
          have B_18 := hid (B_17.out.trans (hb_18.out.mono (by omega)))
          have z_18 : u17.heap.size ≤ u18.heap.size := hb_18.out.size
          clear Ka_17 Ks_17 Kw_17 Kg_17 Kh_17 Lw_17 Lg_17 Lh_17 Nw_17 Ng_17 Nh_17 B_17
          clear hb_18
          clear hb
          go_wp2_with fail
          refine (heldIntS_any (1 + 4 * (P'.length : Int) + 4 * (D'.length : Int)) _ Ng_18.out.at_ (by omega) (by omega) (by omega)).mono ?_
          rintro e w_ ⟨rfl, rfl⟩
          go_wp2
          go_ret
          exact ⟨rfl, B_18.out⟩
  · have hz : (if n + m ≤ 1048576 then 1048576 - (n : Int) - (m : Int) else -1) = -1 := if_neg hbig
    replace hz := hid hz
    obtain ⟨qa0, qa1, qa2, qa3⟩ := Ka_0.out.four
    go_enter Try.func6, Try.ntmps6
    go_upto_region 2 with (fail)
    rw [hu0.out]
    go_wp2_with fail
    refine (szGroup_any i k _ (by omega) (by omega) hz.out).mono ?_
    rintro e w1 ⟨rfl, hb⟩
    have hB := hid (B_0.out.trans (hb.mono (by omega)))
    clear hb
    go_wp2
    go_ret
    exact ⟨rfl, hB.out⟩

end Go.Proofs.Ytefpekehlmnnlaa
