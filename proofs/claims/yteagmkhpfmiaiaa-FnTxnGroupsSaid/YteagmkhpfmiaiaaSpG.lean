/-
  The program's TxnGroups. No condition but lengths below 2^40.
-/
import Derived.Test.YteagmkhpfmiaiaaSpB
import Derived.Test.YteagmkhpfmiaiaaSpF
import Derived.Test.YteagmkhpfmiaiaaSoG
import Derived.Deep.RegionWith
namespace Go.Proofs.Yteagmkhpfmiaiaa
open Go.RowKit
set_option linter.unusedVariables false
set_option linter.unusedSimpArgs false

/-- the mask of the groups of keys -/
def mkK (l : List Int) : Nat := mk (l.map (· % 5))

theorem mkK_snoc {l : List Int} {z : Int} : mkK (l ++ [z]) = mkK l ||| 2 ^ (z % 5).toNat := by
  simp [mkK, mk, List.map_append, List.foldl_append]

theorem mkK_lt {l : List Int} (h : ∀ z ∈ l, 0 ≤ z ∧ z ≤ 14) : mkK l < 32 := by
  apply Nat.lt_pow_two_of_testBit (n := 5)
  intro i hi
  unfold mkK
  rw [mk_test, List.any_eq_false]
  intro z hz
  obtain ⟨y, hy, rfl⟩ := List.mem_map.1 hz
  have := h y hy
  simp; omega

theorem mkK_elems (l : List Int) (h : ∀ z ∈ l, 0 ≤ z ∧ z ≤ 14) : elemsM (mkK l) = grpsOf l := by
  unfold elemsM grpsOf mkK
  refine List.filter_congr fun g hg => ?_
  rw [mk_test, List.any_map]
  rw [grps_mem] at hg
  congr 1
  funext z
  show decide ((z % 5).toNat = g.toNat) = decide (z % 5 = g)
  exact decide_eq_decide.2 (by omega)

theorem two_rows (W : World) {A1 A3 : Option Addr} {n1 c1 n3 c3 : Nat} {xs ys : List Int} (hx : RdI W W.heap.size A1 n1 xs) (hy : RdI W W.heap.size A3 n3 ys) (h1 : n1 < 2097152) (h3 : n3 < 2097152) :
    RdR (W.alloc (.cells #[.slice A1 n1 c1, .slice A3 n3 c3] 23)) W.heap.size 2 [xs, ys] := by
  have hc := Cs.new W 23 #[.slice A1 n1 c1, .slice A3 n3 c3]
  have hb := below1 W (.cells #[.slice A1 n1 c1, .slice A3 n3 c3] 23)
  refine ⟨rfl, fun k zs hk => ?_⟩
  match k, hk with
  | 0, hk => simp at hk; subst hk; exact ⟨A1, n1, c1, hc.cell 0, (hx.below hb).more hb.size, h1⟩
  | 1, hk => simp at hk; subst hk; exact ⟨A3, n3, c3, hc.cell 1, (hy.below hb).more hb.size, h3⟩

set_option maxRecDepth 100000 in
set_option maxHeartbeats 8000000 in
theorem TxnGroups_impl {A1 A2 : Option Addr} {n1 n2 c1 c2 : Nat} {t : Tx} (w : World) (hr : RdT w A1 n1 A2 n2 t) :
    Calls Try.prog 24 #[txV (.slice A1 n1 c1) t.need (.slice A2 n2 c2)] w (NewI w (tgrpR t)) := by
  obtain ⟨u0, hu0⟩ : ∃ W, w.alloc (.cells #[.slice A1 n1 c1, .int .i64 t.need, .slice A2 n2 c2] 26) = W := ⟨_, rfl⟩
  have hbb : Below w.heap.size w u0 := by rw [← hu0]; exact below1 _ _
  have hK := hid (show Cs u0 w.heap.size 26 #[.slice A1 n1 c1, .int .i64 t.need, .slice A2 n2 c2] by rw [← hu0]; exact Cs.new _ _ _)
  have hr2 := hid (hr.step hbb)
  have hlr := hid hr.r.len
  have hlp := hid hr.p.len
  obtain ⟨xb, hxb⟩ : ∃ b, w.heap.size = b := ⟨_, rfl⟩
  obtain ⟨nd, hnd⟩ : ∃ x, t.need = x := ⟨_, rfl⟩
  have hB := hid hbb
  rw [hxb] at hK
  rw [hnd] at hK hu0
  replace hu0 := hid hu0
  replace hnd := hid hnd
  clear hr hbb
  obtain ⟨d0, d1, d2⟩ := hK.out.tri
  go_enter Try.func24, Try.ntmps24
  go_upto_region 1 with (fail)
  rw [hnd.out, hu0.out]
  try rw [hxb]
  replace hxb := hid hxb
  go_wp2_with fail
  (rw [← hnd.out]; refine (TxnValid_impl _ hr2.out).mono ?_); rw [hnd.out]
  rintro e w1 ⟨rfl, hb1⟩
  have hr3 := hid (hr2.out.step hb1)
  have hB1 := hid (hB.out.trans (hb1.mono hB.out.size))
  have hK1 := hid (hK.out.step hb1)
  clear d0 d1 d2 hb1
  cases hv : vtx t with
  | false =>
    have R := hid (tgrpR_no hv)
    clear hv
    go_wp2
    go_ret
    exact ⟨_, rfl, by rw [R.out]; exact OwI.emptyS rfl hB1.out.size, hB1.out.trans ((below1 _ _).mono hB1.out.size)⟩
  | true =>
    have hV := hid (vtx_true.1 hv)
    have R := hid (tgrpR_yes hv)
    have l2 := hr3.out.l2
    have h15 := hid (And.intro (show n1 ≤ 15 by rw [← hlr.out]; exact hV.out.rlen) (show n2 ≤ 15 by rw [← hlp.out]; exact hV.out.plen))
    clear hv
    obtain ⟨d0, d1, d2⟩ := hK1.out.drew.tri
    obtain ⟨L, hL⟩ : ∃ L, t.rd ++ keysP t.puts = L := ⟨_, rfl⟩
    have hLr := hid (show ∀ z ∈ L, 0 ≤ z ∧ z ≤ 14 from fun z hz => by
      rw [← hL] at hz
      rcases List.mem_append.1 hz with h | h
      · exact hV.out.rd.mem h
      · exact hV.out.puts.mem h)
    obtain ⟨nl, hnl⟩ : ∃ n, L.length = n := ⟨_, rfl⟩
    have hn30 : nl ≤ 30 := by have := h15.out; have h1 := hlr.out; have h2 := hlp.out; rw [← hnl, ← hL, List.length_append, keysP_len]; omega
    rw [hL] at R
    replace hL := hid hL
    have hpd := hid (show RdP w1.drew A2 n2 t.puts from hr3.out.p)
    go_wp2_with fail
    go_region_with (first
      | (go_at_call 53; refine (putKeys_any _ hpd.out l2).mono ?_; rintro e w3 ⟨v3, rfl, ho3, hb3⟩; obtain ⟨A3, c3, rfl, hr3i⟩ := ho3.cut (show (keysP t.puts).length = n2 by rw [keysP_len, hlp.out]); have hRR := hid (two_rows w3 (c1 := c1) (c3 := c3) ((show RdI w1.drew w1.drew.heap.size A1 n1 t.rd from hr3.out.r).stp hb3) hr3i (Nat.lt_of_le_of_lt h15.out.1 (by decide)) (Nat.lt_of_le_of_lt h15.out.2 (by decide))); have hb3' := hid (hb3.trans ((below1 w3 (.cells #[.slice A1 n1 c1, .slice A3 n2 c3] 23)).mono hb3.size)); obtain ⟨e0, e1, e2⟩ := (hK1.out.drew.step hb3).tri; clear ho3 hr3i hb3)
      | (go_at_call 52; refine (ConcatV _ hRR.out (by decide) (show ([t.rd, keysP t.puts] : List (List Int)).flatten = L by rw [← hL.out]; simp)).mono ?_; rintro e w4 ⟨A4, c4, rfl, ho4, hb4⟩; have ho4' := hid ho4; have hb4' := hid (hb3'.out.trans (hb4.mono hb3'.out.size)); clear ho4 hb4))
    all_goals (
      rw [hnl] at ho4'
      try rw [hnl]
      have hr4 := hid (show RdI w4 w4.heap.size A4 nl L by
        obtain ⟨A9, c9, e9, h9⟩ := ho4'.out.cut hnl
        injection e9 with e91
        subst e91; exact h9)
      have hBf := hid (hB1.out.drew.trans (hb4'.out.mono hB1.out.drew.size))
      replace hnl := hid hnl
      try clear d0 d1 d2
      try clear e0 e1 e2
      clear hRR hb3' hb4' ho4' hpd
      go_wp2
      (try simp only [List.getElem_toArray, List.getElem_cons_zero, List.getElem_cons_succ, List.set_cons_succ, List.set_cons_zero])
      go_frame
      go_loop [3, 17] (fun s i => ∃ (k m : Nat), k ≤ nl ∧ i = .int .i64 k ∧ s = .int .u64 m ∧ m < 32 ∧ Hid (m = mkK (L.take k))) (fun _ i => nl - (intOf i).toNat)
      case atStart => exact ⟨0, 0, Nat.zero_le _, rfl, rfl, by omega, rfl⟩
      case round =>
        obtain ⟨k, m, hk, rfl, rfl, hm, hmk⟩ := hrel
        by_cases hlt : k < nl
        · obtain ⟨ad, z, rfl, hz, hc⟩ := RdI.at' hr4.out hlt
          have hkl := hid (show k < L.length by rw [hnl.out]; exact hlt)
          obtain ⟨z0, z1⟩ := hLr.out z (by rw [← hz.out, List.getD_eq_getElem?_getD, List.getElem?_eq_getElem hkl.out]; exact List.getElem_mem hkl.out)
          have hg5 : grB (z % 5) = true := grB_true.2 (by omega)
          have hz1000 : z ≤ 1000 := by omega
          have hN := hid (show m ||| 2 ^ (z % 5).toNat = mkK (L.take (k + 1)) by rw [take_snocI hkl.out hz.out, mkK_snoc, ← hmk.out])
          have hlt32 := or_lt32 hm (show (z % 5).toNat ≤ 4 by omega)
          go_wp2_with (first
            | (go_at_call 55; (with_reducible refine (groupOfKey_any _ _ z0 hz1000).mono ?_); rintro e w' ⟨rfl, rfl⟩)
            | (go_at_call 54; (with_reducible refine (with_any _ _ hm hg5 _).mono ?_); rintro e w' ⟨rfl, rfl⟩))
          go_round
          case rel => exact ⟨k + 1, _, by omega, by go_num, rfl, hlt32, hN⟩
          case measure => simp [intOf]; omega
        · have R2 := hid (show grpsOf L = elemsM m by rw [hmk.out, List.take_of_length_le (by rw [hnl.out]; omega), mkK_elems L hLr.out])
          go_wp2_with (go_at_call 56; (with_reducible refine (groups_any _ hm _).mono ?_); rintro e w5 ⟨v5, rfl, ho5, hb5⟩; have ho5' := hid ho5; have hb5' := hid hb5; clear ho5 hb5)
          go_ret
          exact ⟨_, rfl, by rw [R.out, R2.out]; exact ho5'.out.more hBf.out.size, hBf.out.trans (hb5'.out.mono hBf.out.size)⟩)
end Go.Proofs.Yteagmkhpfmiaiaa
