/-
  The contracts of the model's functions of rounds: RoundMissing. No condition but lengths below 2^40.
-/
import Derived.Test.YtccggcdjajehnaaRmI
namespace Go.Proofs.Ytccggcdjajehnaa
open Go.RowKit
set_option linter.unusedVariables false
set_option linter.unusedSimpArgs false

/-- what a call that makes a slice of ints hands back -/
def InPost' (zs : List Int) (w : World) (e : Ending) (w' : World) : Prop :=
  ∃ (A : Option Addr) (c : Nat), e = .returned (.slice A zs.length c) ∧ OwI w' w.heap.size (.slice A zs.length c) zs ∧ Below w.heap.size w w'

theorem InPost'.of {zs : List Int} {w w' : World} {v : Value} {lo : Nat} (h : OwI w' lo v zs) (hlo : w.heap.size ≤ lo) (hb : Below w.heap.size w w') : InPost' zs w (.returned v) w' := by
  obtain ⟨A, c, rfl, -⟩ := h.form
  exact ⟨A, c, rfl, h.more hlo, hb⟩

theorem BW.cellA {W : World} (x : BW W) {p : Addr} {v : Value} (h : W.cell? p = some v) : x.wd.cell? p = some v := (x.below.cell (World.block_lt_of_cell? W _ h)).trans h
/-- One append of one int, what else lies told. -/
theorem wpList_app1G {w : World} {ops : Array Oper} {rest : List Oper} {o : Oper} {a : Act} {Q : Exit → Act → World → Prop} (hgd : o.guard = none) (s x : Operand)
    (ho : o.op = .call { callee := .builtin .append, args := #[s, x], argTypes := #[23, 23] })
    (B : Nat) (z : Int) (v : Value) (zs : List Int) (hs : a.eval s = v) (hx : a.eval x = .slice (some ⟨w.heap.size, 0, none⟩) 1 1) (hown : OwI w B v zs) (hB : B ≤ w.heap.size) (hn : zs.length + 1 < 1099511627776)
    (h : ∀ v' w', OwI w' B v' (zs ++ [z]) → w.grownBy w' v.ownBlock → wpList Try.prog ops Q rest (a.put o.dst v') w') :
    wpList Try.prog ops Q (o :: rest) a (w.alloc (.cells #[.int .i64 z] 3)) := by
  have hl : RdI (w.alloc (.cells #[.int .i64 z] 3)) (w.heap.size + 1) (some ⟨w.heap.size, 0, none⟩) 1 [z] :=
    ⟨rfl, fun _ => ⟨_, rfl, Nat.lt_succ_self _, fun j u hu => by
      match j, hu with
      | 0, hu =>
        simp at hu
        subst hu
        exact (Cs.new w 3 #[.int .i64 z]).cell 0⟩⟩
  refine wpList_appI2 hgd s x ho hs hx (hown.alloc_ _) hl (by simp; omega) (by omega) fun v' w' h1 h2 _ => h v' w' h1 ?_
  exact ⟨h2.os, h2.tape, h2.output, by have := h2.size; simp at this; omega, fun i hi hne => (h2.block i (by simp; omega) hne).trans (Below.heap_alloc w _ i hi)⟩

theorem gOf_step {xs : List St} {j : Nat} {x : St} {z : Int} (hx : xs[j]? = some x) : hasB (gOf (xs.take (j + 1))) z = (hasB (gOf (xs.take j)) z || decide (x.2 = z)) := by
  rw [take_snoc hx, gOf_snoc, Bool.eq_iff_iff, hasB_iff, Bool.or_eq_true, hasB_iff, List.mem_append, decide_eq_true_eq]
  simp [eq_comm]

set_option maxHeartbeats 8000000 in
theorem RoundMissing_spec {n1 c1 n2 c2 : Nat} {A1 A2 : Option Addr} {gs M : List Int} {xs : List St} {m : Int} (hM : misR m gs xs = M) (w : World) (hr : RdR w A1 n1 A2 n2 c2 gs xs) :
    Calls Try.prog 26 #[rnV m (.slice A1 n1 c1) (.slice A2 n2 c2)] w (InPost' M w) := by
  obtain ⟨W0, hW0⟩ : ∃ W0, (w.alloc (.cells #[.int .i64 m, .slice A1 n1 c1, .slice A2 n2 c2] 28)).alloc (.cells #[] 3) = W0 := ⟨_, rfl⟩
  have hB0 := hid (show Below w.heap.size w W0 by rw [← hW0]; exact below2 w _ _)
  have kR0 := hid (show Cs W0 w.heap.size 28 #[.int .i64 m, .slice A1 n1 c1, .slice A2 n2 c2] by rw [← hW0]; exact (Cs.new w _ _).alloc _)
  have hE0 := hid (show OwI W0 w.heap.size (.slice (some ⟨w.heap.size + 1, 0, none⟩) 0 0) [] by rw [← hW0]; exact (OwI.lit0 _ (by simp)).more (by omega))
  have hlt0 : w.heap.size < W0.heap.size := kR0.out.lt
  have hrw := hid hr
  have hh1 := hr.h1
  have hh2 := hr.h2
  have hgl := hid hr.g.len
  have hxl := hid hr.s.len
  have hr0 := hid (hr.below hB0.out)
  replace hW0 := hid hW0
  clear hr
  obtain ⟨r0, r1, r2⟩ := kR0.out.three
  cases hb : rvB m gs xs with
  | false =>
    have hM' : M = [] := by rw [← hM]; exact misR_no hb
    subst hM'
    have hb := hid hb
    clear hM
    go_enter Try.func26, Try.ntmps26
    go_upto_region 2 with (fail)
    rw [hW0.out]
    go_wp2_with fail
    refine (RoundValid_spec hb.out _ hr0.out).mono ?_
    rintro e u1 ⟨rfl, hb1⟩
    have hE1 := hid (hE0.out.stp hb1)
    have hB1 := hid (hB0.out.trans (hb1.mono (by omega)))
    clear hb1
    go_wp2
    go_ret
    exact InPost'.of hE1.out (Nat.le_refl _) hB1.out
  | true =>
    have hM' : misL gs xs = M := by rw [← hM]; exact (misR_yes hb).symm
    have hM' := hid hM'
    have hb := hid hb
    clear hM
    go_enter Try.func26, Try.ntmps26
    go_upto_region 2 with (fail)
    rw [hW0.out]
    go_wp2_with fail
    refine (RoundValid_spec hb.out _ hr0.out).mono ?_
    rintro e u1 ⟨rfl, hb1⟩
    have hE1 := hid (hE0.out.stp hb1)
    have kR1 := hid (kR0.out.step hb1)
    have hB1 := hid (hB0.out.trans (hb1.mono (by omega)))
    clear hb1 r0 r1 r2
    go_wp2_with fail
    go_loopw [3, 4] (fun v i wr => ∃ (k : Nat) (vv : Value), vv = v ∧ k ≤ n1 ∧ i = .int .i64 k ∧ Hid (OwI wr w.heap.size vv (misL (gs.take k) xs)) ∧ Hid (Cs wr w.heap.size 28 #[.int .i64 m, .slice A1 n1 c1, .slice A2 n2 c2]) ∧ Hid (Below w.heap.size w wr)) (fun _ i _ => n1 - (intOf i).toNat)
    case atStart => exact ⟨0, _, rfl, by omega, rfl, hid (by simpa [misL] using hE1.out), kR1, hB1⟩
    case round =>
      obtain ⟨k, vv, rfl, hk, rfl, hO, hK, hB⟩ := hrel
      have hKl := hK.out.lt
      obtain ⟨r0, r1, r2⟩ := hK.out.three
      by_cases hlt : k < n1
      · obtain ⟨ad, z, rfl, hz, hc⟩ := RdI.at' ((hrw.out.below hB.out).g) hlt
        have hkl := hid (show k < gs.length by rw [hgl.out]; exact hlt)
        have i0 : (0 : Int) ≤ (k : Int) := by omega
        have i1 : (k : Int) < (n1 : Int) := by omega
        obtain ⟨wo, rfl⟩ : ∃ wo, wo = wr := ⟨_, rfl⟩
        go_upto_block 2 with (fail)
        go_cut [5] (fun f wx => f = .bool (hasB (gOf xs) z) ∧ Hid (Below wo.heap.size wo wx))
        case first =>
          go_wp2_with fail
          go_loopw [5, 6] (fun f i wr => ∃ j : Nat, j ≤ n2 ∧ i = .int .i64 j ∧ f = .bool (hasB (gOf (xs.take j)) z) ∧ Hid (Below wo.heap.size wo wr)) (fun _ i _ => n2 - (intOf i).toNat)
          case atStart => exact ⟨0, by omega, rfl, rfl, hid (Below.refl _ _)⟩
          case round =>
            obtain ⟨j, hj, rfl, rfl, hD⟩ := hrel
            obtain ⟨s0, s1, s2⟩ := (hK.out.step hD.out).three
            clear r0 r1 r2 hc
            by_cases hjl : j < n2
            · obtain ⟨b, off, t, g, rfl, hx, hbb, v0, v1⟩ := (hrw.out.below (hB.out.trans (hD.out.mono (by omega)))).s.at_ hjl
              have hc := ((hrw.out.below (hB.out.trans (hD.out.mono (by omega)))).g.2 (by omega))
              have hcz : Hid (wr.cell? (ad.add k) = some (.int .i64 z)) := by
                obtain ⟨ad', e, _, hcc⟩ := hc
                injection e with e
                subst e
                refine hid (hcc k _ ?_)
                rw [← hz.out]; simp [hkl.out]
              clear hc
              have j0 : (0 : Int) ≤ (j : Int) := by omega
              have j1 : (j : Int) < (n2 : Int) := by omega
              have X1 : ∀ x : BW wr, x.wd.cell? ⟨w.heap.size, 1, none⟩ = some (.slice (some ad) n1 c1) := fun x => x.cell s1
              have X2 : ∀ x : BW wr, x.wd.cell? ⟨w.heap.size, 2, none⟩ = some (.slice (some ⟨b, off, none⟩) n2 c2) := fun x => x.cell s2
              have C1 : ∀ x : BW wr, x.wd.cell? ⟨b, off + j * 2 + 1, none⟩ = some (.int .i64 g) := fun x => x.cell v1
              have CZ : ∀ x : BW wr, x.wd.cell? (ad.add k) = some (.int .i64 z) := fun x => x.cellA hcz.out
              have hst := gOf_step (z := z) hx.out
              clear v0 v1 hx
              cases hf : hasB (gOf (xs.take j)) z with
              | true =>
                have hst := hid (show hasB (gOf (xs.take (j + 1))) z = true by rw [hst, hf]; rfl)
                clear hf
                go_wp2_with fail
                refine wp_region_below (by kernel_rfl) (by kernel_rfl) ?_
                repeat (go_big_quiet_step (fail))
                refine wpQuiet_nil ?_
                intro w1 hb1
                have hD1 := hid (hD.out.trans (hb1.mono hD.out.size))
                clear hb1
                go_wp2
                go_roundw
                case rel => exact ⟨j + 1, by omega, by go_num, by rw [hst.out], hD1⟩
                case measure => simp [intOf]; omega
              | false =>
                by_cases hgz : g = z
                · have hst := hid (show hasB (gOf (xs.take (j + 1))) z = true by rw [hst, hf]; simp [hgz])
                  have hge : (g == z) = true := by simp [hgz]
                  clear hf hgz
                  go_wp2_with fail
                  refine wp_region_below (by kernel_rfl) (by kernel_rfl) ?_
                  repeat (go_big_quiet_step (fail))
                  refine wpQuiet_nil ?_
                  intro w1 hb1
                  have hD1 := hid (hD.out.trans (hb1.mono hD.out.size))
                  clear hb1
                  go_wp2
                  go_roundw
                  case rel => exact ⟨j + 1, by omega, by go_num, by rw [hst.out], hD1⟩
                  case measure => simp [intOf]; omega
                · have hst := hid (show hasB (gOf (xs.take (j + 1))) z = false by rw [hst, hf]; simp [hgz])
                  have hge : (g == z) = false := by simp [hgz]
                  clear hf hgz
                  go_wp2_with fail
                  refine wp_region_below (by kernel_rfl) (by kernel_rfl) ?_
                  repeat (go_big_quiet_step (fail))
                  refine wpQuiet_nil ?_
                  intro w1 hb1
                  have hD1 := hid (hD.out.trans (hb1.mono hD.out.size))
                  clear hb1
                  go_wp2
                  go_roundw
                  case rel => exact ⟨j + 1, by omega, by go_num, by rw [hst.out], hD1⟩
                  case measure => simp [intOf]; omega
            · have hfin : Hid (hasB (gOf (xs.take j)) z = hasB (gOf xs) z) := hid (by rw [List.take_of_length_le (by rw [hxl.out]; omega)])
              go_wp2
              go_meet
              exact ⟨by rw [hfin.out], hD⟩
        case rest =>
          obtain ⟨rfl, hD⟩ := hcut
          have hKc := hid (hK.out.step hD.out)
          have hOc := hid (hO.out.stp hD.out)
          have hBc := hid (hB.out.trans (hD.out.mono (by omega)))
          have hzc := hD.out.size
          have hmc : wc.cell? (ad.add k) = some (.int .i64 z) := by
            obtain ⟨ad', e, _, hcc⟩ := (hrw.out.below hBc.out).g.2 (by omega)
            injection e with e
            subst e
            refine hcc k _ ?_
            rw [← hz.out]; simp [hkl.out]
          have hln : (misL (gs.take k) xs).length ≤ k := take_filter_len _ _ _
          clear r0 r1 r2 hc hK hO hB hD
          obtain ⟨r0, r1, r2⟩ := hKc.out.three
          cases hf : hasB (gOf xs) z with
          | true =>
            have hnew := hid (take_miss (p := fun g => !hasB (gOf xs) g) hkl.out hz.out (by simp [hf]))
            go_wp2
            go_roundw
            case rel => exact ⟨k + 1, _, rfl, by omega, by go_num, hid (by rw [misL, hnew.out]; exact hOc.out), hKc, hBc⟩
            case measure => simp [intOf]; omega
          | false =>
            have hnew := hid (take_hit (p := fun g => !hasB (gOf xs) g) hkl.out hz.out (by simp [hf]))
            have hwz : w.heap.size ≤ wc.heap.size := by omega
            obtain ⟨L, hL⟩ : ∃ L, misL (gs.take k) xs = L := ⟨_, rfl⟩
            rw [hL] at hOc hln
            replace hL := hid hL
            go_wp2_with (at_builtin; (refine wpList_app1G rfl (.tmp 43) (.tmp 49) rfl w.heap.size z _ L rfl rfl hOc.out hwz (by omega) ?_); intro v9 w9 ho9 hg9; have hk9 := hid ((Kp.refl (fun b => vv.ownBlock = some b) wc).grown hg9 (fun b h => .inr h)); have hK9 := hid (Cs.kp hKc.out hk9.out (cs_type hKc.out hOc.out (by decide))); have hB9 := hid (hBc.out.trans (hk9.out.base hwz (fun b h => (hOc.out.lt b h).1))); have ho9 := hid ho9; clear hg9 hk9)
            go_roundw
            case rel => exact ⟨k + 1, _, rfl, by omega, by go_num, hid (by rw [misL, hnew.out]; rw [misL] at hL; rw [hL.out]; exact ho9.out), hK9, hB9⟩
            case measure => simp [intOf]; omega
      · have hfin : Hid (misL (gs.take k) xs = M) := hid (by rw [List.take_of_length_le (by rw [hgl.out]; omega)]; exact hM'.out)
        rw [hfin.out] at hO
        go_wp2
        go_ret
        exact InPost'.of hO.out (Nat.le_refl _) hB.out

end Go.Proofs.Ytccggcdjajehnaa
