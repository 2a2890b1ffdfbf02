/-
  The contracts of the program's five functions of rounds. No condition but lengths below 2^40.
-/
import Derived.Test.YtccggcdjajehnaaRmE
import Derived.Test.YtccggcdjajehnaaSmD
namespace Go.Proofs.Ytccggcdjajehnaa
open Go.RowKit
set_option linter.unusedVariables false
set_option linter.unusedSimpArgs false

theorem groupRoundOf_as {n1 c1 n2 c2 : Nat} {A1 A2 : Option Addr} {gs : List Int} {xs : List St} {m : Int} (b : Bool) (hb : rvB m gs xs = b) (w : World) (hr : RdR w A1 n1 A2 n2 c2 gs xs) :
    Calls Try.prog 34 #[rnV m (.slice A1 n1 c1) (.slice A2 n2 c2)] w fun e w' => e = .returned (.tuple #[grO m gs xs, .bool b]) ∧ Below w.heap.size w w' := by
  subst hb; exact groupRoundOf_any m w hr

theorem RdR.one {w : World} {A1 : Option Addr} {n1 : Nat} {gs : List Int} (h : RdI w w.heap.size A1 n1 gs) (hn : n1 < 1099511627776) : RdR w A1 n1 none 0 0 gs [] := ⟨h, ⟨rfl, fun h => absurd h (by omega)⟩, hn, by omega, by omega, by omega⟩

theorem rvB_new (m : Int) (gs : List Int) : rvB m gs [] = (msB m && gvalid gs) := by
  have : gotB gs [] = true := gotB_true.2 ⟨(fun x h => by simp at h), by simp⟩
  rw [rvB, this, Bool.true_and]
/-- a valid round's way back -/
theorem round_of {m : Int} {gs : List Int} {xs : List St} (hv : rvB m gs xs = true) (w : World) : Calls Try.prog 35 #[grV (mk gs) m (mk (gOf xs)) (lkS xs)] w (RnPost m gs xs w) := by
  obtain ⟨h1, h2, h3⟩ := rvB_true.1 hv
  have := round_any m (lkS xs) (mk_lt h3) (mk_lt32 (got_rng h1)) w
  rw [← gvalid_elems h3, lk_all h1.2 (got_rng' h1)] at this
  exact this

theorem round_add {m : Int} {gs : List Int} {xs : List St} {s : St} (hv : rvB m gs xs = true) (hs : okS s = true) (ha : adB gs xs s = true) (w : World) :
    Calls Try.prog 35 #[grV (mk gs) m (mk (gOf xs) ||| 2 ^ s.2.toNat) (upT (lkS xs) s.2.toNat s)] w (RnPost m gs (insS xs s) w) := by
  obtain ⟨h1, h2, h3⟩ := rvB_true.1 hv
  have h0 := okS_iff.1 hs
  have := round_any m (upT (lkS xs) s.2.toNat s) (mk_lt h3) (or_lt32 (mk_lt32 (got_rng h1)) (g := s.2.toNat) (by omega)) w
  rw [← gvalid_elems h3, insS_lk h1 hs ha] at this
  exact this

theorem mis_of {m : Int} {gs : List Int} {xs : List St} (hv : rvB m gs xs = true) (w : World) : Calls Try.prog 39 #[grV (mk gs) m (mk (gOf xs)) (lkS xs)] w fun e w' => e = .returned (.int .u64 (misM (mk gs) (mk (gOf xs)) : Nat)) ∧ Below w.heap.size w w' := by
  obtain ⟨h1, h2, h3⟩ := rvB_true.1 hv
  exact missing_any m (lkS xs) (mk_lt h3) (mk_lt32 (got_rng h1)) w

theorem mis_has {m : Int} {gs : List Int} {xs : List St} {t g : Int} {b : Bool} (hv : rvB m gs xs = true) (hs : okS (t, g) = true) (ha : adB gs xs (t, g) = b) (w : World) :
    Calls Try.prog 45 #[.int .u64 (misM (mk gs) (mk (gOf xs)) : Nat), .int .i64 g] w fun e w' => e = .returned (.bool b) ∧ w = w' := by
  obtain ⟨h1, h2, h3⟩ := rvB_true.1 hv
  have h0 := okS_iff.1 hs
  simp only at h0
  have hd := mk_lt32 (got_rng h1)
  have := has_any (misM (mk gs) (mk (gOf xs))) g (misM_lt (mk_lt h3)) (grB_true.2 ⟨h0.2.2.1, h0.2.2.2⟩) w
  rw [misM_bit hd (by omega), mk_bit (fun z hz => gvalid_mem h3 hz) h0.2.2.1, mk_bit (got_rng h1) h0.2.2.1] at this
  rw [← ha]
  exact this

theorem mis_groups {m : Int} {gs : List Int} {xs : List St} (hv : rvB m gs xs = true) (w : World) :
    Calls Try.prog 41 #[.int .u64 (misM (mk gs) (mk (gOf xs)) : Nat)] w fun e w' => ∃ v, e = .returned v ∧ OwI w' w.heap.size v (misL gs xs) ∧ Below w.heap.size w w' := by
  obtain ⟨h1, h2, h3⟩ := rvB_true.1 hv
  rw [misL_elems h3 h1]
  exact groups_any _ (misM_lt (mk_lt h3)) w

theorem got_of {m : Int} {gs : List Int} {xs : List St} (hv : rvB m gs xs = true) (w : World) : Calls Try.prog 40 #[grV (mk gs) m (mk (gOf xs)) (lkS xs)] w (StPost xs w) := by
  obtain ⟨h1, h2, h3⟩ := rvB_true.1 hv
  have := got_any (a := mk gs) m (lkS xs) (mk_lt32 (got_rng h1)) w
  rw [lk_all h1.2 (got_rng' h1)] at this
  exact this
/-- what a call that makes a slice of ints hands back -/
def InPost (zs : List Int) (w : World) (e : Ending) (w' : World) : Prop :=
  ∃ (A : Option Addr) (c : Nat), e = .returned (.slice A zs.length c) ∧ OwI w' w.heap.size (.slice A zs.length c) zs ∧ Below w.heap.size w w'

theorem InPost.of {zs : List Int} {w w' : World} {v : Value} {lo : Nat} (h : OwI w' lo v zs) (hlo : w.heap.size ≤ lo) (hb : Below w.heap.size w w') : InPost zs w (.returned v) w' := by
  obtain ⟨A, c, rfl, -⟩ := h.form
  exact ⟨A, c, rfl, h.more hlo, hb⟩

set_option maxHeartbeats 2000000 in
theorem RoundValid_impl {n1 c1 n2 c2 : Nat} {A1 A2 : Option Addr} {gs : List Int} {xs : List St} {m : Int} {b : Bool} (hb : rvB m gs xs = b) (w : World) (hr : RdR w A1 n1 A2 n2 c2 gs xs) :
    Calls Try.prog 16 #[rnV m (.slice A1 n1 c1) (.slice A2 n2 c2)] w fun e w' => e = .returned (.bool b) ∧ Below w.heap.size w w' := by
  have hB0 := hid (below1 w (.cells #[.int .i64 m, .slice A1 n1 c1, .slice A2 n2 c2] 28))
  have hr0 := hid (hr.below hB0.out)
  have hc := hid (groupRoundOf_as (c1 := c1) (m := m) b hb _ hr0.out)
  cases b with
  | false =>
    have hgo := hid (grO_no hb)
    clear hr hb
    go_enter Try.func16, Try.ntmps16
    go_wp2_with fail
    refine hc.out.mono ?_
    rw [hgo.out]
    rintro e w1 ⟨rfl, hb1⟩
    have hB1 := hid (hB0.out.trans (hb1.mono (by simp)))
    clear hb1
    go_wp2
    go_ret
    exact ⟨rfl, hB1.out.alloc hB1.out.size _⟩
  | true =>
    have hgo := hid (grO_yes hb)
    clear hr hb
    go_enter Try.func16, Try.ntmps16
    go_wp2_with fail
    refine hc.out.mono ?_
    rw [hgo.out]
    rintro e w1 ⟨rfl, hb1⟩
    have hB1 := hid (hB0.out.trans (hb1.mono (by simp)))
    clear hb1
    go_wp2
    go_ret
    exact ⟨rfl, hB1.out.alloc hB1.out.size _⟩

set_option maxHeartbeats 4000000 in
theorem RoundMissing_impl {n1 c1 n2 c2 : Nat} {A1 A2 : Option Addr} {gs M : List Int} {xs : List St} {m : Int} (hM : misR m gs xs = M) (w : World) (hr : RdR w A1 n1 A2 n2 c2 gs xs) :
    Calls Try.prog 18 #[rnV m (.slice A1 n1 c1) (.slice A2 n2 c2)] w (InPost M w) := by
  obtain ⟨b, hb⟩ : ∃ b, rvB m gs xs = b := ⟨_, rfl⟩
  obtain ⟨W0, hW0⟩ : ∃ W0, (w.alloc (.cells #[.int .i64 m, .slice A1 n1 c1, .slice A2 n2 c2] 28)) = W0 := ⟨_, rfl⟩
  have hB0 := hid (show Below w.heap.size w W0 by rw [← hW0]; exact below1 w _)
  have kR0 := hid (show Cs W0 (w.heap.size) 28 #[.int .i64 m, .slice A1 n1 c1, .slice A2 n2 c2] by rw [← hW0]; exact Cs.new w _ _)
  have hz0 : w.heap.size + 1 = W0.heap.size := by rw [← hW0]; simp
  replace hW0 := hid hW0
  have hc := hid (groupRoundOf_as (c1 := c1) (m := m) b hb _ (hr.below hB0.out))
  clear hr
  cases b with
  | false =>
    have hM' : M = [] := by rw [← hM]; exact misR_no hb
    subst hM'
    clear hM
    have hgo := hid (grO_no hb)
    have hb := hid hb
    go_enter Try.func18, Try.ntmps18
    go_upto_region 1 with (fail)
    rw [hW0.out]
    obtain ⟨r0, r1, r2⟩ := kR0.out.three
    go_wp2_with fail
    refine hc.out.mono ?_
    rw [hgo.out]
    rintro e u1 ⟨rfl, hb1⟩
    have kR1 := hid (kR0.out.step hb1)
    have hB1 := hid (hB0.out.trans (hb1.mono (by omega)))
    have hz1 : w.heap.size + 1 ≤ u1.heap.size := by have := hb1.size; omega
    clear r0 r1 r2
    clear hb1 kR0 hB0
    go_upto_region 2 with (fail)
    obtain ⟨u2, hu2⟩ : ∃ u2, u1.alloc (.cells grZ 57) = u2 := ⟨_, rfl⟩
    rw [hu2]
    have hb2 : Below u1.heap.size u1 u2 := by rw [← hu2]; exact below1 _ _
    have hF2 := hid (show Cs u2 u1.heap.size 57 grZ by rw [← hu2]; exact Cs.new _ _ _)
    have kR2 := hid (kR1.out.step hb2)
    have hB2 := hid (hB1.out.trans (hb2.mono (by omega)))
    have hz2 : w.heap.size + 1 ≤ u2.heap.size := by have := hb2.size; omega
    obtain ⟨fb, hfb⟩ : ∃ fb, u1.heap.size = fb := ⟨_, rfl⟩
    rw [hfb] at hF2 hz1 ⊢
    clear hu2 hb2 hfb kR1 hB1 hgo hc
    have hE := hid (OwI.empty_lit u2 (B := w.heap.size) (by omega))
    go_wp2
    go_ret
    exact InPost.of hE.out (Nat.le_refl _) (hB2.out.alloc hB2.out.size _)
  | true =>
    have hM' : misL gs xs = M := by rw [← hM]; exact (misR_yes hb).symm
    clear hM
    have hgo := hid (grO_yes hb)
    have hb := hid hb
    go_enter Try.func18, Try.ntmps18
    go_upto_region 1 with (fail)
    rw [hW0.out]
    obtain ⟨r0, r1, r2⟩ := kR0.out.three
    go_wp2_with fail
    refine hc.out.mono ?_
    rw [hgo.out]
    rintro e u1 ⟨rfl, hb1⟩
    have kR1 := hid (kR0.out.step hb1)
    have hB1 := hid (hB0.out.trans (hb1.mono (by omega)))
    have hz1 : w.heap.size + 1 ≤ u1.heap.size := by have := hb1.size; omega
    clear r0 r1 r2
    clear hb1 kR0 hB0
    go_upto_region 2 with (fail)
    obtain ⟨u2, hu2⟩ : ∃ u2, u1.alloc (.cells (grC (mk gs) m (mk (gOf xs)) (lkS xs)) 57) = u2 := ⟨_, rfl⟩
    rw [hu2]
    have hb2 : Below u1.heap.size u1 u2 := by rw [← hu2]; exact below1 _ _
    have hF2 := hid (show Cs u2 u1.heap.size 57 (grC (mk gs) m (mk (gOf xs)) (lkS xs)) by rw [← hu2]; exact Cs.new _ _ _)
    have kR2 := hid (kR1.out.step hb2)
    have hB2 := hid (hB1.out.trans (hb2.mono (by omega)))
    have hz2 : w.heap.size + 1 ≤ u2.heap.size := by have := hb2.size; omega
    obtain ⟨fb, hfb⟩ : ∃ fb, u1.heap.size = fb := ⟨_, rfl⟩
    rw [hfb] at hF2 hz1 ⊢
    clear hu2 hb2 hfb kR1 hB1 hgo hc
    have hgr := hid (mis_groups hb.out)
    rw [hM'] at hgr
    clear hM'
    obtain ⟨y0, y1, y2, y3, y4, y5, y6, y7, y8, y9, y10, y11, y12⟩ := At13.all hF2.out
    go_wp2_with fail
    refine (mis_of hb.out _).mono ?_
    rintro e u3 ⟨rfl, hb3⟩
    have hB3 := hid (hB2.out.trans (hb3.mono (by omega)))
    have hz3 : w.heap.size + 1 ≤ u3.heap.size := by have := hb3.size; omega
    clear hb3 y0 y1 y2 y3 y4 y5 y6 y7 y8 y9 y10 y11 y12
    go_wp2_with fail
    refine (hgr.out _).mono ?_
    rintro e u4 ⟨v, rfl, ho, hb4⟩
    have hB4 := hid (hB3.out.trans (hb4.mono (by omega)))
    have ho := hid ho
    clear hb4
    go_wp2
    go_ret
    exact InPost.of ho.out (by omega) hB4.out

set_option maxHeartbeats 8000000 in
theorem RoundFinal_impl {n1 c1 n2 c2 : Nat} {A1 A2 : Option Addr} {gs : List Int} {xs : List St} {m t g : Int} {ok : Bool} (hF : fnR m gs xs = (t, g)) (hO : fnB m gs xs = ok) (w : World) (hr : RdR w A1 n1 A2 n2 c2 gs xs) :
    Calls Try.prog 15 #[rnV m (.slice A1 n1 c1) (.slice A2 n2 c2)] w fun e w' => e = .returned (.tuple #[two t g, .bool ok]) ∧ Below w.heap.size w w' := by
  obtain ⟨b, hb⟩ : ∃ b, rvB m gs xs = b := ⟨_, rfl⟩
  obtain ⟨W0, hW0⟩ : ∃ W0, ((w.alloc (.cells #[.int .i64 m, .slice A1 n1 c1, .slice A2 n2 c2] 28)).alloc (.cells #[.int .i64 0, .int .i64 0] 33)) = W0 := ⟨_, rfl⟩
  have hB0 := hid (show Below w.heap.size w W0 by rw [← hW0]; exact below2 w _ _)
  have kR0 := hid (show Cs W0 (w.heap.size) 28 #[.int .i64 m, .slice A1 n1 c1, .slice A2 n2 c2] by rw [← hW0]; exact (Cs.new w _ _).alloc _)
  have kS0 := hid (show Cs W0 (w.heap.size + 1) 33 #[.int .i64 0, .int .i64 0] by rw [← hW0]; exact Cs.new' _ _ _ (by simp))
  have hz0 : w.heap.size + 2 = W0.heap.size := by rw [← hW0]; simp
  replace hW0 := hid hW0
  have hc := hid (groupRoundOf_as (c1 := c1) (m := m) b hb _ (hr.below hB0.out))
  clear hr
  cases b with
  | false =>
    have hR : Hid (Ending.returned (.tuple #[two 0 0, .bool false]) = .returned (.tuple #[two t g, .bool ok])) := hid (by
      have h1 := fnB_no hb
      rw [fnR, h1] at hF
      rw [h1] at hO
      injection hF with e1 e2
      rw [← hO, ← e1, ← e2])
    clear hF hO
    have hgo := hid (grO_no hb)
    have hb := hid hb
    go_enter Try.func15, Try.ntmps15
    go_upto_region 1 with (fail)
    rw [hW0.out]
    obtain ⟨r0, r1, r2⟩ := kR0.out.three
    go_wp2_with fail
    refine hc.out.mono ?_
    rw [hgo.out]
    rintro e u1 ⟨rfl, hb1⟩
    have kR1 := hid (kR0.out.step hb1)
    have kS1 := hid (kS0.out.step hb1)
    have hB1 := hid (hB0.out.trans (hb1.mono (by omega)))
    have hz1 : w.heap.size + 2 ≤ u1.heap.size := by have := hb1.size; omega
    clear r0 r1 r2
    clear hb1 kR0 kS0 hB0
    go_upto_region 2 with (fail)
    obtain ⟨u2, hu2⟩ : ∃ u2, u1.alloc (.cells grZ 57) = u2 := ⟨_, rfl⟩
    rw [hu2]
    have hb2 : Below u1.heap.size u1 u2 := by rw [← hu2]; exact below1 _ _
    have hF2 := hid (show Cs u2 u1.heap.size 57 grZ by rw [← hu2]; exact Cs.new _ _ _)
    have kR2 := hid (kR1.out.step hb2)
    have kS2 := hid (kS1.out.step hb2)
    have hB2 := hid (hB1.out.trans (hb2.mono (by omega)))
    have hz2 : w.heap.size + 2 ≤ u2.heap.size := by have := hb2.size; omega
    obtain ⟨fb, hfb⟩ : ∃ fb, u1.heap.size = fb := ⟨_, rfl⟩
    rw [hfb] at hF2 hz1 ⊢
    clear hu2 hb2 hfb kR1 kS1 hB1 hgo hc
    obtain ⟨s0, s1, s2, s3⟩ := kS2.out.two
    have hY := hid ((((kS2.out.set 0 (.int .i64 0)).set 1 (.int .i64 0)) : Cs _ _ _ #[.int .i64 0, .int .i64 0]).two)
    go_wp2
    obtain ⟨y0, y1, -, -⟩ := hY.out
    refine bodyPost_ret (v := .tuple #[two 0 0, .bool false]) (by simp [results, Try.results15, go_sem, y0, y1]) rfl ⟨hR.out, (hB2.out.setCell (by simp) _).setCell (by simp) _⟩
  | true =>
    obtain ⟨hv1, hv2, hv3⟩ := rvB_true.1 hb
    have hmz := mis_zero hv3 hv1
    by_cases hl : xs.length = gs.length
    · have hfb : fnB m gs xs = true := by rw [fnB, hb]; simpa using hl
      have hmx := hid (fn_max hfb)
      have hfr : Hid (maxR xs = (t, g)) := hid (by rw [← hF, fnR, if_pos hfb])
      have hok : ok = true := by rw [← hO]; exact hfb
      subst hok
      have hmi : ((misM (mk gs) (mk (gOf xs)) : Nat) : Int) = 0 := by rw [hmz.2 hl]; rfl
      have hmi := hid hmi
      have hxl := hid (got_len hv3 hv1)
      clear hF hO hmz hl hfb hv1 hv2 hv3
      have hgo := hid (grO_yes hb)
      have hb := hid hb
      go_enter Try.func15, Try.ntmps15
      go_upto_region 1 with (fail)
      rw [hW0.out]
      obtain ⟨r0, r1, r2⟩ := kR0.out.three
      go_wp2_with fail
      refine hc.out.mono ?_
      rw [hgo.out]
      rintro e u1 ⟨rfl, hb1⟩
      have kR1 := hid (kR0.out.step hb1)
      have kS1 := hid (kS0.out.step hb1)
      have hB1 := hid (hB0.out.trans (hb1.mono (by omega)))
      have hz1 : w.heap.size + 2 ≤ u1.heap.size := by have := hb1.size; omega
      clear r0 r1 r2
      clear hb1 kR0 kS0 hB0
      go_upto_region 2 with (fail)
      obtain ⟨u2, hu2⟩ : ∃ u2, u1.alloc (.cells (grC (mk gs) m (mk (gOf xs)) (lkS xs)) 57) = u2 := ⟨_, rfl⟩
      rw [hu2]
      have hb2 : Below u1.heap.size u1 u2 := by rw [← hu2]; exact below1 _ _
      have hF2 := hid (show Cs u2 u1.heap.size 57 (grC (mk gs) m (mk (gOf xs)) (lkS xs)) by rw [← hu2]; exact Cs.new _ _ _)
      have kR2 := hid (kR1.out.step hb2)
      have kS2 := hid (kS1.out.step hb2)
      have hB2 := hid (hB1.out.trans (hb2.mono (by omega)))
      have hz2 : w.heap.size + 2 ≤ u2.heap.size := by have := hb2.size; omega
      obtain ⟨fb, hfb⟩ : ∃ fb, u1.heap.size = fb := ⟨_, rfl⟩
      rw [hfb] at hF2 hz1 ⊢
      clear hu2 hb2 hfb kR1 kS1 hB1 hgo hc
      obtain ⟨y0, y1, y2, y3, y4, y5, y6, y7, y8, y9, y10, y11, y12⟩ := At13.all hF2.out
      go_wp2_with fail
      refine (mis_of hb.out _).mono ?_
      rw [hmi.out]
      rintro e u3 ⟨rfl, hb3⟩
      have hF3 := hid (hF2.out.step hb3)
      have kS3 := hid (kS2.out.step hb3)
      have hB3 := hid (hB2.out.trans (hb3.mono (by omega)))
      have hz3 : w.heap.size + 2 ≤ u3.heap.size := by have := hb3.size; omega
      clear hb3 y0 y1 y2 y3 y4 y5 y6 y7 y8 y9 y10 y11 y12
      obtain ⟨y0, y1, y2, y3, y4, y5, y6, y7, y8, y9, y10, y11, y12⟩ := At13.all hF3.out
      go_wp2_with fail
      refine (got_of hb.out _).mono ?_
      rintro e u4 ⟨A, c, rfl, ho, hb4⟩
      have kS4 := hid (kS3.out.step hb4)
      have hB4 := hid (hB3.out.trans (hb4.mono (by omega)))
      have hz4 : w.heap.size + 2 ≤ u4.heap.size := by have := hb4.size; omega
      have hcap := ho.cap rfl
      have hrd := hid (ho.rd rfl)
      clear hb4 ho y0 y1 y2 y3 y4 y5 y6 y7 y8 y9 y10 y11 y12
      have hx5 := hxl.out
      go_wp2_with fail
      refine (StampMax_impl _ hrd.out (by omega) hcap.1 hcap.2).mono ?_
      rintro e u5 ⟨he, hb5⟩
      rw [hfr.out, hmx.out] at he
      subst he
      have kS5 := hid (kS4.out.step hb5)
      have hB5 := hid (hB4.out.trans (hb5.mono (by omega)))
      clear hb5 hcap
      obtain ⟨s0, s1, s2, s3⟩ := kS5.out.two
      have hY := hid ((((kS5.out.set 0 (.int .i64 t)).set 1 (.int .i64 g)) : Cs _ _ _ #[.int .i64 t, .int .i64 g]).two)
      go_wp2
      obtain ⟨y0, y1, -, -⟩ := hY.out
      refine bodyPost_ret (v := .tuple #[two t g, .bool true]) (by simp [results, Try.results15, go_sem, y0, y1]) rfl ⟨rfl, (hB5.out.setCell (by simp) _).setCell (by simp) _⟩
    · have hfb : fnB m gs xs = false := by rw [fnB, hb]; simpa using hl
      have hR : Hid (Ending.returned (.tuple #[two 0 0, .bool false]) = .returned (.tuple #[two t g, .bool ok])) := hid (by
        rw [fnR, hfb] at hF
        rw [hfb] at hO
        injection hF with e1 e2
        rw [← hO, ← e1, ← e2])
      have hmi : (((misM (mk gs) (mk (gOf xs)) : Nat) : Int) != 0) = true := by
        have : misM (mk gs) (mk (gOf xs)) ≠ 0 := fun e => hl (hmz.1 e)
        simp; omega
      clear hF hO hmz hl hfb hv1 hv2 hv3
      have hgo := hid (grO_yes hb)
      have hb := hid hb
      go_enter Try.func15, Try.ntmps15
      go_upto_region 1 with (fail)
      rw [hW0.out]
      obtain ⟨r0, r1, r2⟩ := kR0.out.three
      go_wp2_with fail
      refine hc.out.mono ?_
      rw [hgo.out]
      rintro e u1 ⟨rfl, hb1⟩
      have kR1 := hid (kR0.out.step hb1)
      have kS1 := hid (kS0.out.step hb1)
      have hB1 := hid (hB0.out.trans (hb1.mono (by omega)))
      have hz1 : w.heap.size + 2 ≤ u1.heap.size := by have := hb1.size; omega
      clear r0 r1 r2
      clear hb1 kR0 kS0 hB0
      go_upto_region 2 with (fail)
      obtain ⟨u2, hu2⟩ : ∃ u2, u1.alloc (.cells (grC (mk gs) m (mk (gOf xs)) (lkS xs)) 57) = u2 := ⟨_, rfl⟩
      rw [hu2]
      have hb2 : Below u1.heap.size u1 u2 := by rw [← hu2]; exact below1 _ _
      have hF2 := hid (show Cs u2 u1.heap.size 57 (grC (mk gs) m (mk (gOf xs)) (lkS xs)) by rw [← hu2]; exact Cs.new _ _ _)
      have kR2 := hid (kR1.out.step hb2)
      have kS2 := hid (kS1.out.step hb2)
      have hB2 := hid (hB1.out.trans (hb2.mono (by omega)))
      have hz2 : w.heap.size + 2 ≤ u2.heap.size := by have := hb2.size; omega
      obtain ⟨fb, hfb⟩ : ∃ fb, u1.heap.size = fb := ⟨_, rfl⟩
      rw [hfb] at hF2 hz1 ⊢
      clear hu2 hb2 hfb kR1 kS1 hB1 hgo hc
      obtain ⟨y0, y1, y2, y3, y4, y5, y6, y7, y8, y9, y10, y11, y12⟩ := At13.all hF2.out
      go_wp2_with fail
      refine (mis_of hb.out _).mono ?_
      rintro e u3 ⟨rfl, hb3⟩
      have kS3 := hid (kS2.out.step hb3)
      have hB3 := hid (hB2.out.trans (hb3.mono (by omega)))
      clear hb3 y0 y1 y2 y3 y4 y5 y6 y7 y8 y9 y10 y11 y12
      obtain ⟨s0, s1, s2, s3⟩ := kS3.out.two
      have hY := hid ((((kS3.out.set 0 (.int .i64 0)).set 1 (.int .i64 0)) : Cs _ _ _ #[.int .i64 0, .int .i64 0]).two)
      go_wp2
      obtain ⟨y0, y1, -, -⟩ := hY.out
      refine bodyPost_ret (v := .tuple #[two 0 0, .bool false]) (by simp [results, Try.results15, go_sem, y0, y1]) rfl ⟨hR.out, (hB3.out.setCell (by simp) _).setCell (by simp) _⟩

set_option maxHeartbeats 8000000 in
theorem RoundNew_impl {n1 c1 : Nat} {A1 : Option Addr} {gs : List Int} {m : Int} {o : Ro} (hO : nwRo m gs = o) (w : World) (hr : RdI w w.heap.size A1 n1 gs) (hn : n1 < 1099511627776) :
    Calls Try.prog 12 #[.int .i64 m, .slice A1 n1 c1] w (RnPost2 o w) := by
  obtain ⟨xs, hxs⟩ : ∃ xs : List St, xs = [] := ⟨_, rfl⟩
  obtain ⟨b, hb⟩ : ∃ b, rvB m gs xs = b := ⟨_, rfl⟩
  have hb' := hb
  rw [hxs, rvB_new] at hb'
  obtain ⟨W0, hW0⟩ : ∃ W0, (w.alloc (.cells #[.int .i64 0, .slice none 0 0, .slice none 0 0] 28)) = W0 := ⟨_, rfl⟩
  have hB0 := hid (show Below w.heap.size w W0 by rw [← hW0]; exact below1 w _)
  have kZ0 := hid (show Cs W0 (w.heap.size) 28 #[.int .i64 0, .slice none 0 0, .slice none 0 0] by rw [← hW0]; exact Cs.new w _ _)
  have hz0 : w.heap.size + 1 = W0.heap.size := by rw [← hW0]; simp
  replace hW0 := hid hW0
  have hc := hid (groupRoundOf_as (c1 := c1) (m := m) b hb _ ((hxs ▸ RdR.one hr hn : RdR w A1 n1 none 0 0 gs xs).below hB0.out))
  replace hxs := hid hxs
  clear hr
  cases b with
  | false =>
    have hO' : o = ro0 := by rw [← hO, nwRo, hb']; rfl
    subst hO'
    clear hO hb'
    have hgo := hid (grO_no hb)
    have hb := hid hb
    go_enter Try.func12, Try.ntmps12
    go_upto_region 1 with (fail)
    rw [hW0.out]
    go_wp2_with fail
    refine hc.out.mono ?_
    rw [hgo.out]
    rintro e u1 ⟨rfl, hb1⟩
    have kZ1 := hid (kZ0.out.step hb1)
    have hB1 := hid (hB0.out.trans (hb1.mono (by omega)))
    have hz1 : w.heap.size + 1 ≤ u1.heap.size := by have := hb1.size; omega
    clear hb1 kZ0 hB0
    go_upto_region 2 with (fail)
    obtain ⟨u2, hu2⟩ : ∃ u2, u1.alloc (.cells grZ 57) = u2 := ⟨_, rfl⟩
    rw [hu2]
    have hb2 : Below u1.heap.size u1 u2 := by rw [← hu2]; exact below1 _ _
    have hF2 := hid (show Cs u2 u1.heap.size 57 grZ by rw [← hu2]; exact Cs.new _ _ _)
    have kZ2 := hid (kZ1.out.step hb2)
    have hB2 := hid (hB1.out.trans (hb2.mono (by omega)))
    have hz2 : w.heap.size + 1 ≤ u2.heap.size := by have := hb2.size; omega
    obtain ⟨fb, hfb⟩ : ∃ fb, u1.heap.size = fb := ⟨_, rfl⟩
    rw [hfb] at hF2 hz1 ⊢
    clear hu2 hb2 hfb kZ1 hB1 hgo hc
    obtain ⟨q0, q1, q2⟩ := kZ2.out.three
    obtain ⟨g0, g1, g2⟩ := kZ2.out.free3
    have hY := hid (kZ2.out.set3 (.int .i64 0) (.slice none 0 0) (.slice none 0 0)).three
    go_wp2
    obtain ⟨y0, y1, y2⟩ := hY.out
    refine bodyPost_ret (v := .tuple #[rnV 0 (.slice none 0 0) (.slice none 0 0), .bool false]) (by simp [results, Try.results12, go_sem, y0, y1, y2]) rfl ?_
    exact ⟨none, 0, none, 0, rfl, OwR.nil_ _ _, ((hB2.out.setCell (by simp <;> omega) _).setCell (by simp <;> omega) _).setCell (by simp <;> omega) _⟩
  | true =>
    have hO' : o = ⟨m, gs, xs, true⟩ := by rw [← hO, nwRo, hb', hxs.out]; rfl
    subst hO'
    clear hO hb'
    have hgo := hid (grO_yes hb)
    have hb := hid hb
    go_enter Try.func12, Try.ntmps12
    go_upto_region 1 with (fail)
    rw [hW0.out]
    go_wp2_with fail
    refine hc.out.mono ?_
    rw [hgo.out]
    rintro e u1 ⟨rfl, hb1⟩
    have kZ1 := hid (kZ0.out.step hb1)
    have hB1 := hid (hB0.out.trans (hb1.mono (by omega)))
    have hz1 : w.heap.size + 1 ≤ u1.heap.size := by have := hb1.size; omega
    clear hb1 kZ0 hB0
    go_upto_region 2 with (fail)
    obtain ⟨u2, hu2⟩ : ∃ u2, u1.alloc (.cells (grC (mk gs) m (mk (gOf xs)) (lkS xs)) 57) = u2 := ⟨_, rfl⟩
    rw [hu2]
    have hb2 : Below u1.heap.size u1 u2 := by rw [← hu2]; exact below1 _ _
    have hF2 := hid (show Cs u2 u1.heap.size 57 (grC (mk gs) m (mk (gOf xs)) (lkS xs)) by rw [← hu2]; exact Cs.new _ _ _)
    have kZ2 := hid (kZ1.out.step hb2)
    have hB2 := hid (hB1.out.trans (hb2.mono (by omega)))
    have hz2 : w.heap.size + 1 ≤ u2.heap.size := by have := hb2.size; omega
    obtain ⟨fb, hfb⟩ : ∃ fb, u1.heap.size = fb := ⟨_, rfl⟩
    rw [hfb] at hF2 hz1 ⊢
    clear hu2 hb2 hfb kZ1 hB1 hgo hc
    obtain ⟨y0, y1, y2, y3, y4, y5, y6, y7, y8, y9, y10, y11, y12⟩ := At13.all hF2.out
    go_wp2_with fail
    refine (round_of hb.out _).mono ?_
    rintro e u3 ⟨Aa, ca, Ab, cb, rfl, oR, hb3⟩
    have kZ3 := hid (kZ2.out.step hb3)
    have hB3 := hid (hB2.out.trans (hb3.mono (by omega)))
    have oR := hid oR
    clear hb3 y0 y1 y2 y3 y4 y5 y6 y7 y8 y9 y10 y11 y12
    obtain ⟨q0, q1, q2⟩ := kZ3.out.three
    obtain ⟨g0, g1, g2⟩ := kZ3.out.free3
    have hY := hid (kZ3.out.set3 (.int .i64 m) (.slice Aa gs.length ca) (.slice Ab xs.length cb)).three
    have hO := hid (((oR.out.setLow (p := ⟨w.heap.size, 0, none⟩) (by simp; omega) (.int .i64 m)).setLow (p := ⟨w.heap.size, 1, none⟩) (by simp; omega) (.slice Aa gs.length ca)).setLow (p := ⟨w.heap.size, 2, none⟩) (by simp; omega) (.slice Ab xs.length cb))
    go_wp2
    obtain ⟨y0, y1, y2⟩ := hY.out
    refine bodyPost_ret (v := .tuple #[rnV m (.slice Aa gs.length ca) (.slice Ab xs.length cb), .bool true]) (by simp [results, Try.results12, go_sem, y0, y1, y2]) rfl ?_
    exact ⟨Aa, ca, Ab, cb, rfl, hO.out.more (lo' := w.heap.size) (by omega), ((hB3.out.setCell (by simp <;> omega) _).setCell (by simp <;> omega) _).setCell (by simp <;> omega) _⟩

set_option maxHeartbeats 16000000 in
theorem RoundAdd_impl {n1 c1 n2 c2 : Nat} {A1 A2 : Option Addr} {gs : List Int} {xs : List St} {m t g : Int} {o : Ro} (hO : adR m gs xs (t, g) = o) (w : World) (hr : RdR w A1 n1 A2 n2 c2 gs xs) :
    Calls Try.prog 20 #[rnV m (.slice A1 n1 c1) (.slice A2 n2 c2), two t g] w (RnPost2 o w) := by
  obtain ⟨b, hb⟩ : ∃ b, rvB m gs xs = b := ⟨_, rfl⟩
  obtain ⟨W0, hW0⟩ : ∃ W0, (((w.alloc (.cells #[.int .i64 m, .slice A1 n1 c1, .slice A2 n2 c2] 28)).alloc (.cells #[.int .i64 t, .int .i64 g] 33)).alloc (.cells #[.int .i64 0, .slice none 0 0, .slice none 0 0] 28)) = W0 := ⟨_, rfl⟩
  have hB0 := hid (show Below w.heap.size w W0 by rw [← hW0]; exact below3 w _ _ _)
  have kR0 := hid (show Cs W0 (w.heap.size) 28 #[.int .i64 m, .slice A1 n1 c1, .slice A2 n2 c2] by rw [← hW0]; exact ((Cs.new w _ _).alloc _).alloc _)
  have kS0 := hid (show Cs W0 (w.heap.size + 1) 33 #[.int .i64 t, .int .i64 g] by rw [← hW0]; exact (Cs.new' _ _ _ (by simp)).alloc _)
  have kZ0 := hid (show Cs W0 (w.heap.size + 1 + 1) 28 #[.int .i64 0, .slice none 0 0, .slice none 0 0] by rw [← hW0]; exact Cs.new' _ _ _ (by simp))
  have hz0 : w.heap.size + 3 = W0.heap.size := by rw [← hW0]; simp
  replace hW0 := hid hW0
  have hc := hid (groupRoundOf_as (c1 := c1) (m := m) b hb _ (hr.below hB0.out))
  clear hr
  cases b with
  | false =>
    have hO' : o = ro0 := by rw [← hO, adR, hb]; rfl
    subst hO'
    clear hO
    have hgo := hid (grO_no hb)
    have hb := hid hb
    go_enter Try.func20, Try.ntmps20
    go_upto_region 1 with (fail)
    rw [hW0.out]
    obtain ⟨r0, r1, r2⟩ := kR0.out.three
    go_wp2_with fail
    refine hc.out.mono ?_
    rw [hgo.out]
    rintro e u1 ⟨rfl, hb1⟩
    have kR1 := hid (kR0.out.step hb1)
    have kS1 := hid (kS0.out.step hb1)
    have kZ1 := hid (kZ0.out.step hb1)
    have hB1 := hid (hB0.out.trans (hb1.mono (by omega)))
    have hz1 : w.heap.size + 3 ≤ u1.heap.size := by have := hb1.size; omega
    clear r0 r1 r2
    clear hb1 kR0 kS0 kZ0 hB0
    go_upto_region 2 with (fail)
    obtain ⟨u2, hu2⟩ : ∃ u2, u1.alloc (.cells grZ 57) = u2 := ⟨_, rfl⟩
    rw [hu2]
    have hb2 : Below u1.heap.size u1 u2 := by rw [← hu2]; exact below1 _ _
    have hF2 := hid (show Cs u2 u1.heap.size 57 grZ by rw [← hu2]; exact Cs.new _ _ _)
    have kR2 := hid (kR1.out.step hb2)
    have kS2 := hid (kS1.out.step hb2)
    have kZ2 := hid (kZ1.out.step hb2)
    have hB2 := hid (hB1.out.trans (hb2.mono (by omega)))
    have hz2 : w.heap.size + 3 ≤ u2.heap.size := by have := hb2.size; omega
    obtain ⟨fb, hfb⟩ : ∃ fb, u1.heap.size = fb := ⟨_, rfl⟩
    rw [hfb] at hF2 hz1 ⊢
    clear hu2 hb2 hfb kR1 kS1 kZ1 hB1 hgo hc
    obtain ⟨q0, q1, q2⟩ := kZ2.out.three
    obtain ⟨g0, g1, g2⟩ := kZ2.out.free3
    have hY := hid (kZ2.out.set3 (.int .i64 0) (.slice none 0 0) (.slice none 0 0)).three
    go_wp2
    obtain ⟨y0, y1, y2⟩ := hY.out
    refine bodyPost_ret (v := .tuple #[rnV 0 (.slice none 0 0) (.slice none 0 0), .bool false]) (by simp [results, Try.results20, go_sem, y0, y1, y2]) rfl ?_
    exact ⟨none, 0, none, 0, rfl, OwR.nil_ _ _, ((hB2.out.setCell (by simp <;> omega) _).setCell (by simp <;> omega) _).setCell (by simp <;> omega) _⟩
  | true =>
    cases hs : stB t g with
    | false =>
      have hO' : o = ro0 := by rw [← hO, adR, show okS (t, g) = false from hs, Bool.and_false]; rfl
      subst hO'
      have hs := hid hs
      clear hO
      have hgo := hid (grO_yes hb)
      have hb := hid hb
      go_enter Try.func20, Try.ntmps20
      go_upto_region 1 with (fail)
      rw [hW0.out]
      obtain ⟨r0, r1, r2⟩ := kR0.out.three
      go_wp2_with fail
      refine hc.out.mono ?_
      rw [hgo.out]
      rintro e u1 ⟨rfl, hb1⟩
      have kR1 := hid (kR0.out.step hb1)
      have kS1 := hid (kS0.out.step hb1)
      have kZ1 := hid (kZ0.out.step hb1)
      have hB1 := hid (hB0.out.trans (hb1.mono (by omega)))
      have hz1 : w.heap.size + 3 ≤ u1.heap.size := by have := hb1.size; omega
      clear r0 r1 r2
      clear hb1 kR0 kS0 kZ0 hB0
      go_upto_region 2 with (fail)
      obtain ⟨u2, hu2⟩ : ∃ u2, u1.alloc (.cells (grC (mk gs) m (mk (gOf xs)) (lkS xs)) 57) = u2 := ⟨_, rfl⟩
      rw [hu2]
      have hb2 : Below u1.heap.size u1 u2 := by rw [← hu2]; exact below1 _ _
      have hF2 := hid (show Cs u2 u1.heap.size 57 (grC (mk gs) m (mk (gOf xs)) (lkS xs)) by rw [← hu2]; exact Cs.new _ _ _)
      have kR2 := hid (kR1.out.step hb2)
      have kS2 := hid (kS1.out.step hb2)
      have kZ2 := hid (kZ1.out.step hb2)
      have hB2 := hid (hB1.out.trans (hb2.mono (by omega)))
      have hz2 : w.heap.size + 3 ≤ u2.heap.size := by have := hb2.size; omega
      obtain ⟨fb, hfb⟩ : ∃ fb, u1.heap.size = fb := ⟨_, rfl⟩
      rw [hfb] at hF2 hz1 ⊢
      clear hu2 hb2 hfb kR1 kS1 kZ1 hB1 hgo hc
      obtain ⟨s0, s1, -, -⟩ := kS2.out.two
      go_wp2_with fail
      refine (StampValid_impl_as hs.out _).mono ?_
      rintro e u3 ⟨rfl, hb3⟩
      have kZ3 := hid (kZ2.out.step hb3)
      have hB3 := hid (hB2.out.trans (hb3.mono (by omega)))
      clear hb3 s0 s1
      obtain ⟨q0, q1, q2⟩ := kZ3.out.three
      obtain ⟨g0, g1, g2⟩ := kZ3.out.free3
      have hY := hid (kZ3.out.set3 (.int .i64 0) (.slice none 0 0) (.slice none 0 0)).three
      go_wp2
      obtain ⟨y0, y1, y2⟩ := hY.out
      refine bodyPost_ret (v := .tuple #[rnV 0 (.slice none 0 0) (.slice none 0 0), .bool false]) (by simp [results, Try.results20, go_sem, y0, y1, y2]) rfl ?_
      exact ⟨none, 0, none, 0, rfl, OwR.nil_ _ _, ((hB3.out.setCell (by simp <;> omega) _).setCell (by simp <;> omega) _).setCell (by simp <;> omega) _⟩
    | true =>
      have hs2 : okS (t, g) = true := hs
      have hs2 := hid hs2
      cases ha : adB gs xs (t, g) with
      | false =>
        have hO' : o = ⟨m, gs, xs, false⟩ := by rw [← hO, adR, hb, hs2.out, adA, ha]; rfl
        subst hO'
        have hs := hid hs
        have ha := hid ha
        clear hO
        have hgo := hid (grO_yes hb)
        have hb := hid hb
        go_enter Try.func20, Try.ntmps20
        go_upto_region 1 with (fail)
        rw [hW0.out]
        obtain ⟨r0, r1, r2⟩ := kR0.out.three
        go_wp2_with fail
        refine hc.out.mono ?_
        rw [hgo.out]
        rintro e u1 ⟨rfl, hb1⟩
        have kR1 := hid (kR0.out.step hb1)
        have kS1 := hid (kS0.out.step hb1)
        have kZ1 := hid (kZ0.out.step hb1)
        have hB1 := hid (hB0.out.trans (hb1.mono (by omega)))
        have hz1 : w.heap.size + 3 ≤ u1.heap.size := by have := hb1.size; omega
        clear r0 r1 r2
        clear hb1 kR0 kS0 kZ0 hB0
        go_upto_region 2 with (fail)
        obtain ⟨u2, hu2⟩ : ∃ u2, u1.alloc (.cells (grC (mk gs) m (mk (gOf xs)) (lkS xs)) 57) = u2 := ⟨_, rfl⟩
        rw [hu2]
        have hb2 : Below u1.heap.size u1 u2 := by rw [← hu2]; exact below1 _ _
        have hF2 := hid (show Cs u2 u1.heap.size 57 (grC (mk gs) m (mk (gOf xs)) (lkS xs)) by rw [← hu2]; exact Cs.new _ _ _)
        have kR2 := hid (kR1.out.step hb2)
        have kS2 := hid (kS1.out.step hb2)
        have kZ2 := hid (kZ1.out.step hb2)
        have hB2 := hid (hB1.out.trans (hb2.mono (by omega)))
        have hz2 : w.heap.size + 3 ≤ u2.heap.size := by have := hb2.size; omega
        obtain ⟨fb, hfb⟩ : ∃ fb, u1.heap.size = fb := ⟨_, rfl⟩
        rw [hfb] at hF2 hz1 ⊢
        clear hu2 hb2 hfb kR1 kS1 kZ1 hB1 hgo hc
        obtain ⟨s0, s1, -, -⟩ := kS2.out.two
        go_wp2_with fail
        refine (StampValid_impl_as hs.out _).mono ?_
        rintro e u3 ⟨rfl, hb3⟩
        have hF3 := hid (hF2.out.step hb3)
        have kS3 := hid (kS2.out.step hb3)
        have kZ3 := hid (kZ2.out.step hb3)
        have hB3 := hid (hB2.out.trans (hb3.mono (by omega)))
        have hz3 : w.heap.size + 3 ≤ u3.heap.size := by have := hb3.size; omega
        clear hb3 s0 s1
        have X0 : ∀ x : BW u3, x.wd.cell? ⟨fb, 0, none⟩ = some (.int .u64 (mk gs : Nat)) := fun x => x.cell (hF3.out.cell 0)
        have X1 : ∀ x : BW u3, x.wd.cell? ⟨fb, 1, none⟩ = some (.int .i64 m) := fun x => x.cell (hF3.out.cell 1)
        have X2 : ∀ x : BW u3, x.wd.cell? ⟨fb, 2, none⟩ = some (.int .u64 (mk (gOf xs) : Nat)) := fun x => x.cell (hF3.out.cell 2)
        have X3 : ∀ x : BW u3, x.wd.cell? ⟨fb, 3, none⟩ = some (.int .i64 (lkS xs 0).1) := fun x => x.cell (hF3.out.cell 3)
        have X4 : ∀ x : BW u3, x.wd.cell? ⟨fb, 4, none⟩ = some (.int .i64 (lkS xs 0).2) := fun x => x.cell (hF3.out.cell 4)
        have X5 : ∀ x : BW u3, x.wd.cell? ⟨fb, 5, none⟩ = some (.int .i64 (lkS xs 1).1) := fun x => x.cell (hF3.out.cell 5)
        have X6 : ∀ x : BW u3, x.wd.cell? ⟨fb, 6, none⟩ = some (.int .i64 (lkS xs 1).2) := fun x => x.cell (hF3.out.cell 6)
        have X7 : ∀ x : BW u3, x.wd.cell? ⟨fb, 7, none⟩ = some (.int .i64 (lkS xs 2).1) := fun x => x.cell (hF3.out.cell 7)
        have X8 : ∀ x : BW u3, x.wd.cell? ⟨fb, 8, none⟩ = some (.int .i64 (lkS xs 2).2) := fun x => x.cell (hF3.out.cell 8)
        have X9 : ∀ x : BW u3, x.wd.cell? ⟨fb, 9, none⟩ = some (.int .i64 (lkS xs 3).1) := fun x => x.cell (hF3.out.cell 9)
        have X10 : ∀ x : BW u3, x.wd.cell? ⟨fb, 10, none⟩ = some (.int .i64 (lkS xs 3).2) := fun x => x.cell (hF3.out.cell 10)
        have X11 : ∀ x : BW u3, x.wd.cell? ⟨fb, 11, none⟩ = some (.int .i64 (lkS xs 4).1) := fun x => x.cell (hF3.out.cell 11)
        have X12 : ∀ x : BW u3, x.wd.cell? ⟨fb, 12, none⟩ = some (.int .i64 (lkS xs 4).2) := fun x => x.cell (hF3.out.cell 12)
        have XS : ∀ x : BW u3, x.wd.cell? ⟨w.heap.size + 1, 1, none⟩ = some (.int .i64 g) := fun x => x.cell (kS3.out.cell 1)
        go_wp2_with fail
        refine wp_region_below (by kernel_rfl) (by kernel_rfl) ?_
        repeat (go_big_quiet_step ((first | (go_at_call 39; exact BW.call _ (mis_of hb.out _)) | (go_at_call 45; exact BW.same _ (mis_has hb.out hs2.out ha.out _)))))
        refine wpQuiet_nil ?_
        intro u4 hb4
        clear XS X0 X1 X2 X3 X4 X5 X6 X7 X8 X9 X10 X11 X12
        have hF4 := hid (hF3.out.step hb4)
        have kS4 := hid (kS3.out.step hb4)
        have kZ4 := hid (kZ3.out.step hb4)
        have hB4 := hid (hB3.out.trans (hb4.mono (by omega)))
        have hz4 : w.heap.size + 3 ≤ u4.heap.size := by have := hb4.size; omega
        clear hb4
        obtain ⟨y0, y1, y2, y3, y4, y5, y6, y7, y8, y9, y10, y11, y12⟩ := At13.all hF4.out
        go_wp2_with fail
        refine (round_of hb.out _).mono ?_
        rintro e u5 ⟨Aa, ca, Ab, cb, rfl, oR, hb5⟩
        have kZ5 := hid (kZ4.out.step hb5)
        have hB5 := hid (hB4.out.trans (hb5.mono (by omega)))
        have oR := hid oR
        clear hb5 y0 y1 y2 y3 y4 y5 y6 y7 y8 y9 y10 y11 y12
        obtain ⟨q0, q1, q2⟩ := kZ5.out.three
        obtain ⟨g0, g1, g2⟩ := kZ5.out.free3
        have hY := hid (kZ5.out.set3 (.int .i64 m) (.slice Aa gs.length ca) (.slice Ab xs.length cb)).three
        have hO := hid (((oR.out.setLow (p := ⟨w.heap.size + 1 + 1, 0, none⟩) (by simp; omega) (.int .i64 m)).setLow (p := ⟨w.heap.size + 1 + 1, 1, none⟩) (by simp; omega) (.slice Aa gs.length ca)).setLow (p := ⟨w.heap.size + 1 + 1, 2, none⟩) (by simp; omega) (.slice Ab xs.length cb))
        go_wp2
        obtain ⟨y0, y1, y2⟩ := hY.out
        refine bodyPost_ret (v := .tuple #[rnV m (.slice Aa gs.length ca) (.slice Ab xs.length cb), .bool false]) (by simp [results, Try.results20, go_sem, y0, y1, y2]) rfl ?_
        exact ⟨Aa, ca, Ab, cb, rfl, hO.out.more (lo' := w.heap.size) (by omega), ((hB5.out.setCell (by simp <;> omega) _).setCell (by simp <;> omega) _).setCell (by simp <;> omega) _⟩
      | true =>
        have hO' : o = ⟨m, gs, insS xs (t, g), true⟩ := by rw [← hO, adR, hb, hs2.out, adA, ha]; rfl
        subst hO'
        have hs := hid hs
        have ha := hid ha
        clear hO
        have hgo := hid (grO_yes hb)
        have hb := hid hb
        go_enter Try.func20, Try.ntmps20
        go_upto_region 1 with (fail)
        rw [hW0.out]
        obtain ⟨r0, r1, r2⟩ := kR0.out.three
        go_wp2_with fail
        refine hc.out.mono ?_
        rw [hgo.out]
        rintro e u1 ⟨rfl, hb1⟩
        have kR1 := hid (kR0.out.step hb1)
        have kS1 := hid (kS0.out.step hb1)
        have kZ1 := hid (kZ0.out.step hb1)
        have hB1 := hid (hB0.out.trans (hb1.mono (by omega)))
        have hz1 : w.heap.size + 3 ≤ u1.heap.size := by have := hb1.size; omega
        clear r0 r1 r2
        clear hb1 kR0 kS0 kZ0 hB0
        go_upto_region 2 with (fail)
        obtain ⟨u2, hu2⟩ : ∃ u2, u1.alloc (.cells (grC (mk gs) m (mk (gOf xs)) (lkS xs)) 57) = u2 := ⟨_, rfl⟩
        rw [hu2]
        have hb2 : Below u1.heap.size u1 u2 := by rw [← hu2]; exact below1 _ _
        have hF2 := hid (show Cs u2 u1.heap.size 57 (grC (mk gs) m (mk (gOf xs)) (lkS xs)) by rw [← hu2]; exact Cs.new _ _ _)
        have kR2 := hid (kR1.out.step hb2)
        have kS2 := hid (kS1.out.step hb2)
        have kZ2 := hid (kZ1.out.step hb2)
        have hB2 := hid (hB1.out.trans (hb2.mono (by omega)))
        have hz2 : w.heap.size + 3 ≤ u2.heap.size := by have := hb2.size; omega
        obtain ⟨fb, hfb⟩ : ∃ fb, u1.heap.size = fb := ⟨_, rfl⟩
        rw [hfb] at hF2 hz1 ⊢
        clear hu2 hb2 hfb kR1 kS1 kZ1 hB1 hgo hc
        obtain ⟨s0, s1, -, -⟩ := kS2.out.two
        go_wp2_with fail
        refine (StampValid_impl_as hs.out _).mono ?_
        rintro e u3 ⟨rfl, hb3⟩
        have hF3 := hid (hF2.out.step hb3)
        have kS3 := hid (kS2.out.step hb3)
        have kZ3 := hid (kZ2.out.step hb3)
        have hB3 := hid (hB2.out.trans (hb3.mono (by omega)))
        have hz3 : w.heap.size + 3 ≤ u3.heap.size := by have := hb3.size; omega
        clear hb3 s0 s1
        have X0 : ∀ x : BW u3, x.wd.cell? ⟨fb, 0, none⟩ = some (.int .u64 (mk gs : Nat)) := fun x => x.cell (hF3.out.cell 0)
        have X1 : ∀ x : BW u3, x.wd.cell? ⟨fb, 1, none⟩ = some (.int .i64 m) := fun x => x.cell (hF3.out.cell 1)
        have X2 : ∀ x : BW u3, x.wd.cell? ⟨fb, 2, none⟩ = some (.int .u64 (mk (gOf xs) : Nat)) := fun x => x.cell (hF3.out.cell 2)
        have X3 : ∀ x : BW u3, x.wd.cell? ⟨fb, 3, none⟩ = some (.int .i64 (lkS xs 0).1) := fun x => x.cell (hF3.out.cell 3)
        have X4 : ∀ x : BW u3, x.wd.cell? ⟨fb, 4, none⟩ = some (.int .i64 (lkS xs 0).2) := fun x => x.cell (hF3.out.cell 4)
        have X5 : ∀ x : BW u3, x.wd.cell? ⟨fb, 5, none⟩ = some (.int .i64 (lkS xs 1).1) := fun x => x.cell (hF3.out.cell 5)
        have X6 : ∀ x : BW u3, x.wd.cell? ⟨fb, 6, none⟩ = some (.int .i64 (lkS xs 1).2) := fun x => x.cell (hF3.out.cell 6)
        have X7 : ∀ x : BW u3, x.wd.cell? ⟨fb, 7, none⟩ = some (.int .i64 (lkS xs 2).1) := fun x => x.cell (hF3.out.cell 7)
        have X8 : ∀ x : BW u3, x.wd.cell? ⟨fb, 8, none⟩ = some (.int .i64 (lkS xs 2).2) := fun x => x.cell (hF3.out.cell 8)
        have X9 : ∀ x : BW u3, x.wd.cell? ⟨fb, 9, none⟩ = some (.int .i64 (lkS xs 3).1) := fun x => x.cell (hF3.out.cell 9)
        have X10 : ∀ x : BW u3, x.wd.cell? ⟨fb, 10, none⟩ = some (.int .i64 (lkS xs 3).2) := fun x => x.cell (hF3.out.cell 10)
        have X11 : ∀ x : BW u3, x.wd.cell? ⟨fb, 11, none⟩ = some (.int .i64 (lkS xs 4).1) := fun x => x.cell (hF3.out.cell 11)
        have X12 : ∀ x : BW u3, x.wd.cell? ⟨fb, 12, none⟩ = some (.int .i64 (lkS xs 4).2) := fun x => x.cell (hF3.out.cell 12)
        have XS : ∀ x : BW u3, x.wd.cell? ⟨w.heap.size + 1, 1, none⟩ = some (.int .i64 g) := fun x => x.cell (kS3.out.cell 1)
        go_wp2_with fail
        refine wp_region_below (by kernel_rfl) (by kernel_rfl) ?_
        repeat (go_big_quiet_step ((first | (go_at_call 39; exact BW.call _ (mis_of hb.out _)) | (go_at_call 45; exact BW.same _ (mis_has hb.out hs2.out ha.out _)))))
        refine wpQuiet_nil ?_
        intro u4 hb4
        clear XS X0 X1 X2 X3 X4 X5 X6 X7 X8 X9 X10 X11 X12
        have hF4 := hid (hF3.out.step hb4)
        have kS4 := hid (kS3.out.step hb4)
        have kZ4 := hid (kZ3.out.step hb4)
        have hB4 := hid (hB3.out.trans (hb4.mono (by omega)))
        have hz4 : w.heap.size + 3 ≤ u4.heap.size := by have := hb4.size; omega
        clear hb4
        obtain ⟨y0, y1, y2, y3, y4, y5, y6, y7, y8, y9, y10, y11, y12⟩ := At13.all hF4.out
        obtain ⟨s0, s1, -, -⟩ := kS4.out.two
        have hgr := hid (show grB g = true from by have := okS_iff.1 hs2.out; exact grB_true.2 ⟨this.2.2.1, this.2.2.2⟩)
        have hd32 := hid (mk_lt32 (got_rng (rvB_true.1 hb.out).1))
        go_wp2_with fail
        refine (adding_any m (lkS xs) hd32.out hgr.out _).mono ?_
        rintro e u5 ⟨rfl, hb5⟩
        have kZ5 := hid (kZ4.out.step hb5)
        have hB5 := hid (hB4.out.trans (hb5.mono (by omega)))
        have hz5 : w.heap.size + 3 ≤ u5.heap.size := by have := hb5.size; omega
        clear hb5 y0 y1 y2 y3 y4 y5 y6 y7 y8 y9 y10 y11 y12 s0 s1
        go_wp2_with fail
        refine (round_add hb.out hs2.out ha.out _).mono ?_
        rintro e u6 ⟨Aa, ca, Ab, cb, rfl, oR, hb6⟩
        have kZ6 := hid (kZ5.out.step hb6)
        have hB6 := hid (hB5.out.trans (hb6.mono (by omega)))
        have oR := hid oR
        clear hb6
        obtain ⟨q0, q1, q2⟩ := kZ6.out.three
        obtain ⟨g0, g1, g2⟩ := kZ6.out.free3
        have hY := hid (kZ6.out.set3 (.int .i64 m) (.slice Aa gs.length ca) (.slice Ab (insS xs (t, g)).length cb)).three
        have hO := hid (((oR.out.setLow (p := ⟨w.heap.size + 1 + 1, 0, none⟩) (by simp; omega) (.int .i64 m)).setLow (p := ⟨w.heap.size + 1 + 1, 1, none⟩) (by simp; omega) (.slice Aa gs.length ca)).setLow (p := ⟨w.heap.size + 1 + 1, 2, none⟩) (by simp; omega) (.slice Ab (insS xs (t, g)).length cb))
        go_wp2
        obtain ⟨y0, y1, y2⟩ := hY.out
        refine bodyPost_ret (v := .tuple #[rnV m (.slice Aa gs.length ca) (.slice Ab (insS xs (t, g)).length cb), .bool true]) (by simp [results, Try.results20, go_sem, y0, y1, y2]) rfl ?_
        exact ⟨Aa, ca, Ab, cb, rfl, hO.out.more (lo' := w.heap.size) (by omega), ((hB6.out.setCell (by simp <;> omega) _).setCell (by simp <;> omega) _).setCell (by simp <;> omega) _⟩
end Go.Proofs.Ytccggcdjajehnaa
