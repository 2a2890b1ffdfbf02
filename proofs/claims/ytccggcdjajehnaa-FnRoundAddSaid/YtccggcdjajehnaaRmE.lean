/-
  The contract of the program's groupRoundOf: a round with its stamps in their places, and whether it is valid. No condition but lengths below 2^40.
-/
import Derived.Test.YtccggcdjajehnaaRmD
namespace Go.Proofs.Ytccggcdjajehnaa
open Go.RowKit
set_option linter.unusedVariables false
set_option linter.unusedSimpArgs false

/-- what groupRoundOf hands back -/
def grO (m : Int) (gs : List Int) (xs : List St) : Value := if rvB m gs xs then grV (mk gs) m (mk (gOf xs)) (lkS xs) else .agg grZ

theorem grO_no {m : Int} {gs : List Int} {xs : List St} (h : rvB m gs xs = false) : grO m gs xs = .agg grZ := by simp [grO, h]

theorem grO_yes {m : Int} {gs : List Int} {xs : List St} (h : rvB m gs xs = true) : grO m gs xs = grV (mk gs) m (mk (gOf xs)) (lkS xs) := by simp [grO, h]

def GrPost (m : Int) (gs : List Int) (xs : List St) (w : World) (e : Ending) (w' : World) : Prop := e = .returned (.tuple #[grO m gs xs, .bool (rvB m gs xs)]) ∧ Below w.heap.size w w'

theorem lk_step {xs : List St} {k : Nat} {x : St} (h : Asc2 (xs.take (k + 1))) (hx : xs[k]? = some x) (h0 : 0 ≤ x.2) : upT (lkS (xs.take k)) x.2.toNat x = lkS (xs.take (k + 1)) := by
  rw [take_snoc hx] at h ⊢
  rw [Asc2, List.pairwise_append] at h
  exact (lk_snoc (fun y hy => by have := h.2.2 y hy x (by simp); omega) h0).symm

abbrev StampValidI (t g : Int) (w : World) (b : Bool) : Prop := stB t g = b → Calls Try.prog 44 #[two t g] w fun e w' => e = .returned (.bool b) ∧ Below w.heap.size w w'

theorem StampValid_impl_as {t g : Int} {b : Bool} (h : stB t g = b) (w : World) : Calls Try.prog 44 #[two t g] w fun e w' => e = .returned (.bool b) ∧ Below w.heap.size w w' := by
  subst h; exact StampValid_impl t g w

theorem grZ_all {w : World} {b : Nat} (h : Cs w b 57 grZ) :
    w.cell? ⟨b, 0, none⟩ = some (.int .u64 0) ∧ w.cell? ⟨b, 1, none⟩ = some (.int .i64 0) ∧ w.cell? ⟨b, 2, none⟩ = some (.int .u64 0) ∧ w.cell? ⟨b, 3, none⟩ = some (.int .i64 0) ∧ w.cell? ⟨b, 4, none⟩ = some (.int .i64 0) ∧ w.cell? ⟨b, 5, none⟩ = some (.int .i64 0) ∧ w.cell? ⟨b, 6, none⟩ = some (.int .i64 0) ∧ w.cell? ⟨b, 7, none⟩ = some (.int .i64 0) ∧ w.cell? ⟨b, 8, none⟩ = some (.int .i64 0) ∧ w.cell? ⟨b, 9, none⟩ = some (.int .i64 0) ∧ w.cell? ⟨b, 10, none⟩ = some (.int .i64 0) ∧ w.cell? ⟨b, 11, none⟩ = some (.int .i64 0) ∧ w.cell? ⟨b, 12, none⟩ = some (.int .i64 0) :=
  ⟨h.cell 0, h.cell 1, h.cell 2, h.cell 3, h.cell 4, h.cell 5, h.cell 6, h.cell 7, h.cell 8, h.cell 9, h.cell 10, h.cell 11, h.cell 12⟩

theorem fr_all {w : World} {b : Nat} {U : TypeId} {cs : Array Value} (h : Cs w b U cs) :
    w.frozen? ⟨b, 0, none⟩ = false ∧ w.frozen? ⟨b, 1, none⟩ = false ∧ w.frozen? ⟨b, 2, none⟩ = false ∧ w.frozen? ⟨b, 3, none⟩ = false ∧ w.frozen? ⟨b, 4, none⟩ = false ∧ w.frozen? ⟨b, 5, none⟩ = false ∧ w.frozen? ⟨b, 6, none⟩ = false ∧ w.frozen? ⟨b, 7, none⟩ = false ∧ w.frozen? ⟨b, 8, none⟩ = false ∧ w.frozen? ⟨b, 9, none⟩ = false ∧ w.frozen? ⟨b, 10, none⟩ = false ∧ w.frozen? ⟨b, 11, none⟩ = false ∧ w.frozen? ⟨b, 12, none⟩ = false :=
  ⟨h.frozen 0, h.frozen 1, h.frozen 2, h.frozen 3, h.frozen 4, h.frozen 5, h.frozen 6, h.frozen 7, h.frozen 8, h.frozen 9, h.frozen 10, h.frozen 11, h.frozen 12⟩
/-- the world behind a store of the zero round -/
theorem finZ {B b : Nat} {v w : World} (h : Cs w b 57 grZ) (hB : Below B v w) (hb : B ≤ b) :
    ∃ W, (((((((((((((w.setCell ⟨b, 0, none⟩ (.int .u64 0)).setCell ⟨b, 1, none⟩ (.int .i64 0)).setCell ⟨b, 2, none⟩ (.int .u64 0)).setCell ⟨b, 3, none⟩ (.int .i64 0)).setCell ⟨b, 4, none⟩ (.int .i64 0)).setCell ⟨b, 5, none⟩ (.int .i64 0)).setCell ⟨b, 6, none⟩ (.int .i64 0)).setCell ⟨b, 7, none⟩ (.int .i64 0)).setCell ⟨b, 8, none⟩ (.int .i64 0)).setCell ⟨b, 9, none⟩ (.int .i64 0)).setCell ⟨b, 10, none⟩ (.int .i64 0)).setCell ⟨b, 11, none⟩ (.int .i64 0)).setCell ⟨b, 12, none⟩ (.int .i64 0)) = W ∧ Cs W b 57 grZ ∧ Below B v W :=
  ⟨_, rfl, h.set13 (.int .u64 0) (.int .i64 0) (.int .u64 0) (.int .i64 0) (.int .i64 0) (.int .i64 0) (.int .i64 0) (.int .i64 0) (.int .i64 0) (.int .i64 0) (.int .i64 0) (.int .i64 0) (.int .i64 0), below13 hB hb⟩

set_option maxRecDepth 100000 in
set_option maxHeartbeats 16000000 in
theorem groupRoundOf_any {n1 c1 n2 c2 : Nat} {A1 A2 : Option Addr} {gs : List Int} {xs : List St} (m : Int) (w : World) (hr : RdR w A1 n1 A2 n2 c2 gs xs) :
    Calls Try.prog 34 #[rnV m (.slice A1 n1 c1) (.slice A2 n2 c2)] w (GrPost m gs xs w) := by
  obtain ⟨W0, hW0⟩ : ∃ W0, ((w.alloc (.cells #[.int .i64 m, .slice A1 n1 c1, .slice A2 n2 c2] 28)).alloc (.cells grZ 57)) = W0 := ⟨_, rfl⟩
  have hB0 := hid (show Below w.heap.size w W0 by rw [← hW0]; exact below2 w _ _)
  have hK0 := hid (show Cs W0 w.heap.size 28 #[.int .i64 m, .slice A1 n1 c1, .slice A2 n2 c2] by rw [← hW0]; exact (Cs.new w _ _).alloc _)
  have hZ0 := hid (show Cs W0 (w.heap.size + 1) 57 grZ by rw [← hW0]; exact Cs.new' _ _ _ (by simp))
  have hz0 : W0.heap.size = w.heap.size + 1 + 1 := by rw [← hW0]; simp
  have hr0 := hid (hr.below hB0.out)
  have hh1 := hr.h1
  have hh2 := hr.h2
  have hxl := hid hr.s.len
  have hz0' := hid hz0
  replace hW0 := hid hW0
  have hrw := hid hr
  clear hr hz0
  obtain ⟨k0, k1, k2⟩ := hK0.out.three
  cases hg : gvalid gs with
  | false =>
    have hg := hid hg
    go_enter Try.func34, Try.ntmps34
    go_upto_region 1 with (fail)
    rw [hW0.out]
    go_wp2_with fail
    refine (groupSetOf_any _ hr0.out.g hh1).mono ?_
    rw [hg.out]
    rintro e w1 ⟨rfl, rfl⟩
    have R := hid (rvB_grp (m := m) (xs := xs) hg.out)
    obtain ⟨WF, hWF, hKF, hBF⟩ := finZ hZ0.out hB0.out (by omega : w.heap.size ≤ w.heap.size + 1)
    replace hWF := hid hWF
    replace hKF := hid hKF
    replace hBF := hid hBF
    obtain ⟨z0, z1, z2, z3, z4, z5, z6, z7, z8, z9, z10, z11, z12⟩ := grZ_all hZ0.out
    obtain ⟨f0, f1, f2, f3, f4, f5, f6, f7, f8, f9, f10, f11, f12⟩ := fr_all hZ0.out
    go_wp2
    rw [hWF.out]
    clear hWF z0 f0 z1 f1 z2 f2 z3 f3 z4 f4 z5 f5 z6 f6 z7 f7 z8 f8 z9 f9 z10 f10 z11 f11 z12 f12
    obtain ⟨y0, y1, y2, y3, y4, y5, y6, y7, y8, y9, y10, y11, y12⟩ := grZ_all hKF.out
    refine bodyPost_ret (v := .tuple #[.agg grZ, .bool false]) (by simp [results, Try.results34, go_sem, y0, y1, y2, y3, y4, y5, y6, y7, y8, y9, y10, y11, y12]) rfl ⟨?_, hBF.out⟩
    rw [grO_no R.out, R.out]
  | true =>
    have hmk := hid (maskR_yes hg)
    have hmk32 := mk_lt hg
    have hgm := hid (fun z (hz : z ∈ gs) => gvalid_mem hg hz)
    have hg := hid hg
    cases hm : msB m with
    | false =>
      have hm := hid hm
      go_enter Try.func34, Try.ntmps34
      go_upto_region 1 with (fail)
      rw [hW0.out]
      go_wp2_with fail
      refine (groupSetOf_any _ hr0.out.g hh1).mono ?_
      rw [hg.out, hmk.out]
      rintro e w1 ⟨rfl, rfl⟩
      go_wp2_with fail
      refine (messageExists_any _ _).mono ?_
      rw [hm.out]
      rintro e w1 ⟨rfl, rfl⟩
      have R := hid (rvB_msg (gs := gs) (xs := xs) hm.out)
      obtain ⟨WF, hWF, hKF, hBF⟩ := finZ hZ0.out hB0.out (by omega : w.heap.size ≤ w.heap.size + 1)
      replace hWF := hid hWF
      replace hKF := hid hKF
      replace hBF := hid hBF
      obtain ⟨z0, z1, z2, z3, z4, z5, z6, z7, z8, z9, z10, z11, z12⟩ := grZ_all hZ0.out
      obtain ⟨f0, f1, f2, f3, f4, f5, f6, f7, f8, f9, f10, f11, f12⟩ := fr_all hZ0.out
      go_wp2
      rw [hWF.out]
      clear hWF z0 f0 z1 f1 z2 f2 z3 f3 z4 f4 z5 f5 z6 f6 z7 f7 z8 f8 z9 f9 z10 f10 z11 f11 z12 f12
      obtain ⟨y0, y1, y2, y3, y4, y5, y6, y7, y8, y9, y10, y11, y12⟩ := grZ_all hKF.out
      refine bodyPost_ret (v := .tuple #[.agg grZ, .bool false]) (by simp [results, Try.results34, go_sem, y0, y1, y2, y3, y4, y5, y6, y7, y8, y9, y10, y11, y12]) rfl ⟨?_, hBF.out⟩
      rw [grO_no R.out, R.out]
    | true =>
      have hm := hid hm
      go_enter Try.func34, Try.ntmps34
      go_upto_region 1 with (fail)
      rw [hW0.out]
      go_wp2_with fail
      refine (groupSetOf_any _ hr0.out.g hh1).mono ?_
      rw [hg.out, hmk.out]
      rintro e w1 ⟨rfl, rfl⟩
      go_wp2_with fail
      refine (messageExists_any _ _).mono ?_
      rw [hm.out]
      rintro e w1 ⟨rfl, rfl⟩
      go_upto_region 5 with (fail)
      obtain ⟨u1, hu1⟩ : ∃ u1, W0.alloc (.cells #[.int .u64 (mk gs : Nat), .int .i64 m, .int .u64 0, .int .i64 0, .int .i64 0, .int .i64 0, .int .i64 0, .int .i64 0, .int .i64 0, .int .i64 0, .int .i64 0, .int .i64 0, .int .i64 0] 57) = u1 := ⟨_, rfl⟩
      rw [hu1]
      have hB1 := hid (show Below w.heap.size w u1 by rw [← hu1]; exact hB0.out.alloc hB0.out.size _)
      have hK1 := hid (show At13 u1 W0.heap.size (mk gs) m (mk (gOf (xs.take 0))) (lkS (xs.take 0)) by rw [← hu1]; exact Cs.new _ _ _)
      have hZ1 := hid (show Cs u1 (w.heap.size + 1) 57 grZ by rw [← hu1]; exact hZ0.out.alloc _)
      clear k2
      have k2 : u1.cell? ⟨w.heap.size, 2, none⟩ = some (.slice A2 n2 c2) := by rw [← hu1]; exact (hK0.out.alloc _).cell 2
      have hzz : u1.heap.size = w.heap.size + 1 + 1 + 1 := by rw [← hu1]; simp [hz0'.out]
      have hgb := hz0'.out
      clear hu1 hB0 hK0 hZ0 hr0 k0 k1 hW0
      rw [hgb] at hK1 ⊢
      clear hgb hz0'
      go_wp2_with fail
      clear k2
      have hL0 := hid (laG_zero xs)
      go_loopw [7, 32] (fun la i wr => ∃ (k : Nat) (l : Int), k ≤ n2 ∧ i = .int .i64 k ∧ la = .int .i64 l ∧ Hid (l = laG xs k) ∧ Hid (GotOk gs (xs.take k)) ∧ Hid (At13 wr (w.heap.size + 1 + 1) (mk gs) m (mk (gOf (xs.take k))) (lkS (xs.take k))) ∧ Hid (Cs wr (w.heap.size + 1) 57 grZ) ∧ Hid (Below w.heap.size w wr)) (fun _ i _ => n2 - (intOf i).toNat)
      case atStart => exact ⟨0, -1, by omega, rfl, rfl, hL0, hid (got_nil gs xs), hK1, hZ1, hB1⟩
      case round =>
        clear hK1 hZ1 hB1 hzz hL0
        obtain ⟨k, l, hk, rfl, rfl, hl, hok, hK, hZ, hB⟩ := hrel
        by_cases hlt : k < n2
        · obtain ⟨b, off, t, g, rfl, hx, hbb, c0, c1⟩ := (hrw.out.below hB.out).s.at_ hlt
          have hrng := hid (got_rng hok.out)
          have hd32 := mk_lt32 hrng.out
          have hKl := Cs.lt hK.out
          have hZl := hZ.out.lt
          have iz0 : (0 : Int) ≤ (k : Int) := by omega
          have iz1 : (k : Int) < (n2 : Int) := by omega
          go_upto_region 9 with (fail)
          obtain ⟨u2, hu2⟩ : ∃ u2, wr.alloc (.cells #[.int .i64 t, .int .i64 g] 33) = u2 := ⟨_, rfl⟩
          rw [hu2]
          obtain ⟨sb, hsb⟩ : ∃ sb, wr.heap.size = sb := ⟨_, rfl⟩
          have hb2 := hid (show Below wr.heap.size wr u2 by rw [← hu2]; exact below1 _ _)
          have hS2 := hid (show Cs u2 sb 33 #[.int .i64 t, .int .i64 g] by rw [← hu2]; exact Cs.new' _ _ _ hsb)
          rw [hsb]
          have hK2 := hid (Cs.step hK.out hb2.out)
          have hZ2 := hid (hZ.out.step hb2.out)
          have hB2 := hid (hB.out.trans (hb2.out.mono hB.out.size))
          have hgs : w.heap.size + 1 + 1 ≠ sb := by omega
          clear hu2 hb2 hK hZ hB c0 c1
          obtain ⟨s0, s1, -, -⟩ := hS2.out.two
          cases hst : stB t g with
          | false =>
            go_wp2_with fail
            refine (StampValid_impl _ _ _).mono ?_
            rw [hst]
            rintro e u3 ⟨rfl, hb3⟩
            have hZ3 := hid (hZ2.out.step hb3)
            have hB3 := hid (hB2.out.trans (hb3.mono hB2.out.size))
            clear hb3 s0 s1
            have hst := hid hst
            have R := hid (rvB_got (m := m) (gs := gs) (got_bad1 hx.out (okR_no1 hst.out)))
            obtain ⟨WF, hWF, hKF, hBF⟩ := finZ hZ3.out hB3.out (by omega : w.heap.size ≤ w.heap.size + 1)
            replace hWF := hid hWF
            replace hKF := hid hKF
            replace hBF := hid hBF
            obtain ⟨z0, z1, z2, z3, z4, z5, z6, z7, z8, z9, z10, z11, z12⟩ := grZ_all hZ3.out
            obtain ⟨f0, f1, f2, f3, f4, f5, f6, f7, f8, f9, f10, f11, f12⟩ := fr_all hZ3.out
            go_wp2
            rw [hWF.out]
            clear hWF z0 f0 z1 f1 z2 f2 z3 f3 z4 f4 z5 f5 z6 f6 z7 f7 z8 f8 z9 f9 z10 f10 z11 f11 z12 f12
            obtain ⟨y0, y1, y2, y3, y4, y5, y6, y7, y8, y9, y10, y11, y12⟩ := grZ_all hKF.out
            refine bodyPost_ret (v := .tuple #[.agg grZ, .bool false]) (by simp [results, Try.results34, go_sem, y0, y1, y2, y3, y4, y5, y6, y7, y8, y9, y10, y11, y12]) rfl ⟨?_, hBF.out⟩
            rw [grO_no R.out, R.out]
          | true =>
            have hgr : grB g = true := by have := stB_true.1 hst; exact grB_true.2 ⟨this.2.2.1, this.2.2.2⟩
            have hgr0 := hid (grB_true.1 hgr)
            have hbit := hid (mk_bit hgm.out hgr0.out.1 (g := g))
            have hgr := hid hgr
            have hsp : (StampValidI t g u2 true) := fun h => StampValid_impl_as h _
            have hst := hid hst
            cases hha : hasB gs g with
            | false =>
              have hha := hid hha
              go_wp2_with fail
              refine (hsp hst.out).mono ?_
              rintro e u3 ⟨rfl, hb3⟩
              have hZ3 := hid (hZ2.out.step hb3)
              have hB3 := hid (hB2.out.trans (hb3.mono hB2.out.size))
              obtain ⟨t0, t1, -, -⟩ := (hS2.out.step hb3).two
              obtain ⟨g0, -, -⟩ := At13.head (Cs.step hK2.out hb3)
              clear hb3 s0 s1
              go_wp2_with fail
              refine (has_any (mk gs) g hmk32 hgr.out _).mono ?_
              rw [hbit.out, hha.out]
              rintro e w4 ⟨rfl, rfl⟩
              clear t0 t1 g0
              have R := hid (rvB_got (m := m) (gs := gs) (got_bad1 hx.out (okR_no2 hha.out)))
              obtain ⟨WF, hWF, hKF, hBF⟩ := finZ hZ3.out hB3.out (by omega : w.heap.size ≤ w.heap.size + 1)
              replace hWF := hid hWF
              replace hKF := hid hKF
              replace hBF := hid hBF
              obtain ⟨z0, z1, z2, z3, z4, z5, z6, z7, z8, z9, z10, z11, z12⟩ := grZ_all hZ3.out
              obtain ⟨f0, f1, f2, f3, f4, f5, f6, f7, f8, f9, f10, f11, f12⟩ := fr_all hZ3.out
              go_wp2
              rw [hWF.out]
              clear hWF z0 f0 z1 f1 z2 f2 z3 f3 z4 f4 z5 f5 z6 f6 z7 f7 z8 f8 z9 f9 z10 f10 z11 f11 z12 f12
              obtain ⟨y0, y1, y2, y3, y4, y5, y6, y7, y8, y9, y10, y11, y12⟩ := grZ_all hKF.out
              refine bodyPost_ret (v := .tuple #[.agg grZ, .bool false]) (by simp [results, Try.results34, go_sem, y0, y1, y2, y3, y4, y5, y6, y7, y8, y9, y10, y11, y12]) rfl ⟨?_, hBF.out⟩
              rw [grO_no R.out, R.out]
            | true =>
              have hha := hid hha
              have hor := hid (okR_yes (x := (t, g)) hst.out hha.out)
              go_wp2_with fail
              refine (hsp hst.out).mono ?_
              rintro e u3 ⟨rfl, hb3⟩
              have hS3 := hid (hS2.out.step hb3)
              have hK3 := hid (Cs.step hK2.out hb3)
              have hZ3 := hid (hZ2.out.step hb3)
              have hB3 := hid (hB2.out.trans (hb3.mono hB2.out.size))
              obtain ⟨t0, t1, -, -⟩ := hS3.out.two
              obtain ⟨y0, y1, y2, y3, y4, y5, y6, y7, y8, y9, y10, y11, y12⟩ := At13.all hK3.out
              clear hb3 s0 s1 hS2 hK2 hZ2 hB2
              go_wp2_with fail
              refine (has_any (mk gs) g hmk32 hgr.out _).mono ?_
              rw [hbit.out, hha.out]
              rintro e w4 ⟨rfl, rfl⟩
              by_cases hgl : g ≤ l
              · have hgl' := hid hgl
                clear t0 y0 y1 y2 y3 y4 y5 y6 y7 y8 y9 y10 y11 y12
                have R := hid (rvB_got (m := m) (gs := gs) (got_bad2 hx.out (by rw [← hl.out]; exact hgl'.out) hgr0.out.1))
                obtain ⟨WF, hWF, hKF, hBF⟩ := finZ hZ3.out hB3.out (by omega : w.heap.size ≤ w.heap.size + 1)
                replace hWF := hid hWF
                replace hKF := hid hKF
                replace hBF := hid hBF
                obtain ⟨z0, z1, z2, z3, z4, z5, z6, z7, z8, z9, z10, z11, z12⟩ := grZ_all hZ3.out
                obtain ⟨f0, f1, f2, f3, f4, f5, f6, f7, f8, f9, f10, f11, f12⟩ := fr_all hZ3.out
                go_wp2
                rw [hWF.out]
                clear hWF z0 f0 z1 f1 z2 f2 z3 f3 z4 f4 z5 f5 z6 f6 z7 f7 z8 f8 z9 f9 z10 f10 z11 f11 z12 f12
                obtain ⟨y0, y1, y2, y3, y4, y5, y6, y7, y8, y9, y10, y11, y12⟩ := grZ_all hKF.out
                refine bodyPost_ret (v := .tuple #[.agg grZ, .bool false]) (by simp [results, Try.results34, go_sem, y0, y1, y2, y3, y4, y5, y6, y7, y8, y9, y10, y11, y12]) rfl ⟨?_, hBF.out⟩
                rw [grO_no R.out, R.out]
              · have hgl2 := hid (show laG xs k < (t, g).2 by rw [← hl.out]; show l < g; omega)
                have hok2 := hid (got_step hok.out hx.out hor.out hgl2.out)
                have hd2 : Hid (mk (gOf (xs.take k)) ||| 2 ^ g.toNat = mk (gOf (xs.take (k + 1)))) := hid (by rw [take_snoc hx.out, gOf_snoc, mk_snoc])
                have hT2 : Hid (upT (lkS (xs.take k)) g.toNat (t, g) = lkS (xs.take (k + 1))) := hid (lk_step hok2.out.2 hx.out hgr0.out.1)
                have had := hid (adding_any (a := mk gs) m (lkS (xs.take k)) (t := t) hd32 hgr.out)
                rw [hd2.out, hT2.out] at had
                have hla2 := hid (laG_succ hx.out)
                have hgl' := hid hgl
                have hgln : (decide (g ≤ l)) = false := by simpa using hgl
                clear hgl
                obtain ⟨T, hT⟩ : ∃ T, lkS (xs.take k) = T := ⟨_, rfl⟩
                obtain ⟨d, hd⟩ : ∃ d, mk (gOf (xs.take k)) = d := ⟨_, rfl⟩
                obtain ⟨T', hT'⟩ : ∃ T', lkS (xs.take (k + 1)) = T' := ⟨_, rfl⟩
                obtain ⟨d', hd'⟩ : ∃ d', mk (gOf (xs.take (k + 1))) = d' := ⟨_, rfl⟩
                rw [hT, hd, hT', hd'] at had
                rw [hT, hd] at hK3
                rw [hd] at y2
                rw [hT] at y3 y4 y5 y6 y7 y8 y9 y10 y11 y12
                clear hd2 hT2 hd hT hd32
                replace hT' := hid hT'
                replace hd' := hid hd'
                go_upto_region 12 with (go_at_call 46; (with_reducible refine (had.out _).mono ?_); rintro e u4 ⟨rfl, hb4⟩; have hK4 := hid (Cs.step hK3.out hb4); have hS4 := hid (hS3.out.step hb4); have hZ4 := hid (hZ3.out.step hb4); have hB4 := hid (hB3.out.trans (hb4.mono hB3.out.size)); obtain ⟨x0, x1, x2, x3, x4, x5, x6, x7, x8, x9, x10, x11, x12⟩ := At13.all hK4.out; obtain ⟨f0, f1, f2, f3, f4, f5, f6, f7, f8, f9, f10, f11, f12⟩ := fr_all hK4.out; clear hb4 y0 y1 y2 y3 y4 y5 y6 y7 y8 y9 y10 y11 y12)
                obtain ⟨u5, hu5, hK5, hB5, hkp⟩ := fin13 hK4.out rfl hB4.out (by omega : w.heap.size ≤ w.heap.size + 1 + 1) (mk gs) m d' T'
                rw [hu5]
                have kp := hkp (fun b => b = w.heap.size + 1 + 1) rfl
                have hS5 := hid (hS4.out.kp kp (fun e => hgs e.symm))
                have hZ5 := hid (hZ4.out.kp kp (fun (e : w.heap.size + 1 = w.heap.size + 1 + 1) => by omega))
                have hK5' : Hid (At13 u5 (w.heap.size + 1 + 1) (mk gs) m (mk (gOf (xs.take (k + 1)))) (lkS (xs.take (k + 1)))) := hid (by rw [hT'.out, hd'.out]; exact hK5)
                replace hB5 := hid hB5
                clear hu5 kp hkp x0 x1 x2 x3 x4 x5 x6 x7 x8 x9 x10 x11 x12 f0 f1 f2 f3 f4 f5 f6 f7 f8 f9 f10 f11 f12 hK5 hS4 hZ4 hB4 hK4 t0 t1
                obtain ⟨s0, s1, -, -⟩ := hS5.out.two
                have hla3 := hid (show g = laG xs (k + 1) from hla2.out.symm)
                clear hla2
                go_wp2
                go_roundw
                case rel => exact ⟨k + 1, g, by omega, by go_num, rfl, hla3, hok2, hK5', hZ5, hB5⟩
                case measure => simp [intOf]; omega
        · obtain rfl : k = n2 := by omega
          have R := hid (show rvB m gs xs = true from rvB_true.2 ⟨gotB_true.1 (got_fin hok.out (by rw [hxl.out]; omega)), hm.out, hg.out⟩)
          rw [List.take_of_length_le (by rw [hxl.out]; omega)] at hK
          obtain ⟨T, hT⟩ : ∃ T, lkS xs = T := ⟨_, rfl⟩
          obtain ⟨d, hd⟩ : ∃ d, mk (gOf xs) = d := ⟨_, rfl⟩
          rw [hT, hd] at hK
          replace hT := hid hT
          replace hd := hid hd
          obtain ⟨WF, hWF, hKF, hBF, -⟩ := fin13 hZ.out rfl hB.out (by omega : w.heap.size ≤ w.heap.size + 1) (mk gs) m d T
          replace hWF := hid hWF
          replace hKF := hid hKF
          replace hBF := hid hBF
          obtain ⟨z0, z1, z2, z3, z4, z5, z6, z7, z8, z9, z10, z11, z12⟩ := grZ_all hZ.out
          obtain ⟨f0, f1, f2, f3, f4, f5, f6, f7, f8, f9, f10, f11, f12⟩ := fr_all hZ.out
          obtain ⟨x0, x1, x2, x3, x4, x5, x6, x7, x8, x9, x10, x11, x12⟩ := At13.all hK.out
          go_wp2
          rw [hWF.out]
          clear hWF z0 f0 x0 z1 f1 x1 z2 f2 x2 z3 f3 x3 z4 f4 x4 z5 f5 x5 z6 f6 x6 z7 f7 x7 z8 f8 x8 z9 f9 x9 z10 f10 x10 z11 f11 x11 z12 f12 x12
          obtain ⟨y0, y1, y2, y3, y4, y5, y6, y7, y8, y9, y10, y11, y12⟩ := At13.all hKF.out
          refine bodyPost_ret (v := .tuple #[grV (mk gs) m d T, .bool true]) (by simp [results, Try.results34, go_sem, y0, y1, y2, y3, y4, y5, y6, y7, y8, y9, y10, y11, y12]) rfl ⟨?_, hBF.out⟩
          rw [grO_yes R.out, R.out, hT.out, hd.out]
end Go.Proofs.Ytccggcdjajehnaa
