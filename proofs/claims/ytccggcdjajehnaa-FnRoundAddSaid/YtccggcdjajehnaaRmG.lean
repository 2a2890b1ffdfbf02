/-
  The contracts of the model's functions of rounds: RoundValid, RoundMissing. No condition but lengths below 2^40.
-/
import Derived.Test.YtccggcdjajehnaaRmB
import Derived.Test.YtccggcdjajehnaaSpecC
import Derived.Deep.CutBlock
import Derived.Deep.RegionLaw
import Derived.Deep.RegionHeld3
import Derived.Deep.DeepCutAuto
namespace Go.Proofs.Ytccggcdjajehnaa
open Go.RowKit
set_option linter.unusedVariables false
set_option linter.unusedSimpArgs false

theorem StampValid_spec_as {t g : Int} {b : Bool} (h : stB t g = b) (w : World) : Calls Try.prog 24 #[two t g] w fun e w' => e = .returned (.bool b) ∧ Below w.heap.size w w' := by
  subst h; exact StampValid_spec t g w

theorem l1Has_as {B n c : Nat} {A : Option Addr} {zs : List Int} {x : Int} {b : Bool} (h : hasB zs x = b) (w : World) (hr : RdI w B A n zs) (hn : n < 1099511627776) : Calls Try.prog 48 #[.slice A n c, .int .i64 x] w fun e w' => e = .returned (.bool b) ∧ w = w' := by
  subst h; exact l1Has_any x w hr hn

theorem l11Message_ar {m : Int} {r : Bool} (h : msB m = r) (w : World) : Calls Try.prog 36 #[.int .i64 m] w fun e w' => e = .returned (.bool r) ∧ w = w' := by
  subst h; exact l11Message_any m w

theorem BW.rdi {W : World} (x : BW W) {A : Option Addr} {n : Nat} {zs : List Int} (h : RdI W W.heap.size A n zs) : RdI x.wd x.wd.heap.size A n zs := (Reads.below h x.below).more x.below.size

set_option maxRecDepth 100000 in
set_option maxHeartbeats 8000000 in
theorem RoundValid_spec_any {n1 c1 n2 c2 : Nat} {A1 A2 : Option Addr} {gs : List Int} {xs : List St} (m : Int) (w : World) (hr : RdR w A1 n1 A2 n2 c2 gs xs) :
    Calls Try.prog 23 #[rnV m (.slice A1 n1 c1) (.slice A2 n2 c2)] w fun e w' => e = .returned (.bool (rvB m gs xs)) ∧ Below w.heap.size w w' := by
  have hB0 := hid (below1 w (.cells #[.int .i64 m, .slice A1 n1 c1, .slice A2 n2 c2] 28))
  have hK0 := hid (Cs.new w 28 #[.int .i64 m, .slice A1 n1 c1, .slice A2 n2 c2])
  have hrw := hid hr
  have hh1 := hr.h1
  have hh2 := hr.h2
  have hxl := hid hr.s.len
  clear hr
  go_enter Try.func23, Try.ntmps23
  go_wp2
  go_loopw [3] (fun i wr => ∃ k : Nat, k ≤ n2 ∧ i = .int .i64 k ∧ Hid (GotOk gs (xs.take k)) ∧ Hid (Cs wr w.heap.size 28 #[.int .i64 m, .slice A1 n1 c1, .slice A2 n2 c2]) ∧ Hid (Below w.heap.size w wr)) (fun i _ => n2 - (intOf i).toNat)
  case atStart => exact ⟨0, by omega, rfl, hid (got_nil gs xs), hK0, hB0⟩
  case round =>
    obtain ⟨k, hk, rfl, hok, hK, hB⟩ := hrel
    have hKl := hK.out.lt
    by_cases hlt : k < n2
    · obtain ⟨b, off, t, g, rfl, hx, hbb, v0, v1⟩ := (hrw.out.below hB.out).s.at_ hlt
      obtain ⟨k0, k1, k2⟩ := hK.out.three
      have G1 : ∀ x : BW wr, x.wd.cell? ⟨w.heap.size, 1, none⟩ = some (.slice A1 n1 c1) := fun x => x.cell k1
      have G2 : ∀ x : BW wr, x.wd.cell? ⟨w.heap.size, 2, none⟩ = some (.slice (some ⟨b, off, none⟩) n2 c2) := fun x => x.cell k2
      have C0 : ∀ x : BW wr, x.wd.cell? ⟨b, off + k * 2, none⟩ = some (.int .i64 t) := fun x => x.cell v0
      have C1 : ∀ x : BW wr, x.wd.cell? ⟨b, off + k * 2 + 1, none⟩ = some (.int .i64 g) := fun x => x.cell v1
      have HR : Hid (∀ x : BW wr, RdI x.wd x.wd.heap.size A1 n1 gs) := hid (fun x => x.rdi (hrw.out.below hB.out).g)
      have i0 : (0 : Int) ≤ (k : Int) := by omega
      have i1 : (k : Int) < (n2 : Int) := by omega
      have hprev : Hid (∀ (h : 0 < k), ∃ t' g', wr.cell? ⟨b, off + (k - 1) * 2 + 1, none⟩ = some (.int .i64 g') ∧ xs[k - 1]? = some (t', g')) := hid (fun h => by
        obtain ⟨b', off', t', g', e', hx', hb', d0, d1⟩ := (hrw.out.below hB.out).s.at_ (show k - 1 < n2 by omega)
        injection e' with e'
        injection e' with e1 e2
        subst e1; subst e2
        exact ⟨t', g', d1, hx'.out⟩)
      clear v0 v1 k0 k1
      cases hS : stB t g with
      | false =>
        have R := hid (rvB_got (m := m) (got_bad1 (gs := gs) hx.out (okR_no1 hS)))
        have hS := hid hS
        have hH := hid (rfl : hasB gs g = hasB gs g)
        clear hprev
        go_wp2_with fail
        refine wp_region_below (by kernel_rfl) (by kernel_rfl) ?_
        repeat (go_big_quiet_step ((first | (go_at_call 24; exact BW.call _ (StampValid_spec_as hS.out _)) | (go_at_call 48; exact BW.same _ (l1Has_as hH.out _ (HR.out _) hh1)))))
        refine wpQuiet_nil ?_
        intro w1 hb1
        have hB1 := hid (hB.out.trans (hb1.mono hB.out.size))
        have hK1 := hid (hK.out.step hb1)
        clear hb1
        go_wp2
        go_ret
        exact ⟨by rw [R.out]; rfl, hB1.out⟩
      | true =>
        have hS := hid hS
        have hg0 := hid ((stB_true.1 hS.out).2.2.1)
        cases hH : hasB gs g with
        | false =>
          have R := hid (rvB_got (m := m) (got_bad1 (gs := gs) hx.out (okR_no2 hH)))
          have hH := hid hH
          clear hprev
          go_wp2_with fail
          refine wp_region_below (by kernel_rfl) (by kernel_rfl) ?_
          repeat (go_big_quiet_step ((first | (go_at_call 24; exact BW.call _ (StampValid_spec_as hS.out _)) | (go_at_call 48; exact BW.same _ (l1Has_as hH.out _ (HR.out _) hh1)))))
          refine wpQuiet_nil ?_
          intro w1 hb1
          have hB1 := hid (hB.out.trans (hb1.mono hB.out.size))
          have hK1 := hid (hK.out.step hb1)
          clear hb1
          go_wp2
          go_ret
          exact ⟨by rw [R.out]; rfl, hB1.out⟩
        | true =>
          have hH := hid hH
          have hor := hid (okR_yes (x := (t, g)) hS.out hH.out)
          rcases Nat.eq_zero_or_pos k with h0 | h0
          · have hK9 : decide (0 < k) = false := by simp; omega
            have hok2 := hid (got_step hok.out hx.out hor.out (by rw [h0, laG_zero]; show -1 < g; have := hg0.out; omega))
            clear hprev h0
            go_wp2_with fail
            refine wp_region_below (by kernel_rfl) (by kernel_rfl) ?_
            repeat (go_big_quiet_step ((first | (go_at_call 24; exact BW.call _ (StampValid_spec_as hS.out _)) | (go_at_call 48; exact BW.same _ (l1Has_as hH.out _ (HR.out _) hh1)))))
            refine wpQuiet_nil ?_
            intro w1 hb1
            have hB1 := hid (hB.out.trans (hb1.mono hB.out.size))
            have hK1 := hid (hK.out.step hb1)
            clear hb1
            go_wp2
            go_roundw
            case rel => exact ⟨k + 1, by omega, by go_num, hok2, hK1, hB1⟩
            case measure => simp [intOf]; omega
          · have hK9 : decide (0 < k) = true := by simp; omega
            obtain ⟨t', g', d1, hx'⟩ := hprev.out h0
            have D1 : ∀ x : BW wr, x.wd.cell? ⟨b, off + (k - 1) * 2 + 1, none⟩ = some (.int .i64 g') := fun x => x.cell d1
            have hla : laG xs k = g' := by have := laG_succ hx'; rwa [show k - 1 + 1 = k by omega] at this
            have j0 : (0 : Int) ≤ (k : Int) - 1 := by omega
            have j1 : (k : Int) - 1 < (n2 : Int) := by omega
            have j2 : ((k : Int) - 1).toNat = k - 1 := by omega
            have j3 : IntKind.i64.wrap ((k : Int) - 1) = (k : Int) - 1 := IntWalk.i64_in _ (by omega)
            clear d1 hx' hprev
            by_cases hgg : g ≤ g'
            · have hgd : decide (g ≤ g') = true := by simpa using hgg
              have R := hid (rvB_got (m := m) (got_bad2 (gs := gs) hx.out (by rw [hla]; exact hgg) hg0.out))
              clear hla hgg
              go_wp2_with fail
              refine wp_region_below (by kernel_rfl) (by kernel_rfl) ?_
              repeat (go_big_quiet_step ((first | (go_at_call 24; exact BW.call _ (StampValid_spec_as hS.out _)) | (go_at_call 48; exact BW.same _ (l1Has_as hH.out _ (HR.out _) hh1)))))
              refine wpQuiet_nil ?_
              intro w1 hb1
              have hB1 := hid (hB.out.trans (hb1.mono hB.out.size))
              have hK1 := hid (hK.out.step hb1)
              clear hb1
              go_wp2
              go_ret
              exact ⟨by rw [R.out]; rfl, hB1.out⟩
            · have hgd : decide (g ≤ g') = false := by simpa using hgg
              have hok2 := hid (got_step hok.out hx.out hor.out (by rw [hla]; show g' < g; omega))
              clear hla hgg
              go_wp2_with fail
              refine wp_region_below (by kernel_rfl) (by kernel_rfl) ?_
              repeat (go_big_quiet_step ((first | (go_at_call 24; exact BW.call _ (StampValid_spec_as hS.out _)) | (go_at_call 48; exact BW.same _ (l1Has_as hH.out _ (HR.out _) hh1)))))
              refine wpQuiet_nil ?_
              intro w1 hb1
              have hB1 := hid (hB.out.trans (hb1.mono hB.out.size))
              have hK1 := hid (hK.out.step hb1)
              clear hb1
              go_wp2
              go_roundw
              case rel => exact ⟨k + 1, by omega, by go_num, hok2, hK1, hB1⟩
              case measure => simp [intOf]; omega
    · have hg := got_fin hok.out (gs := gs) (by rw [hxl.out]; omega)
      have hrv : rvB m gs xs = (msB m && gvalid gs) := by rw [rvB, hg, Bool.true_and]
      obtain ⟨k0, k1, k2⟩ := hK.out.three
      have hr9 := hid ((hrw.out.below hB.out).g)
      clear hg
      cases hM : msB m with
      | false =>
        have R := hid (show rvB m gs xs = false by rw [hrv, hM]; rfl)
        have hM := hid hM
        clear hrv
        go_wp2_with (go_at_call 36; (with_reducible refine (l11Message_ar hM.out _).mono ?_); rintro e w' ⟨rfl, rfl⟩)
        go_ret
        exact ⟨by rw [R.out]; rfl, hB.out⟩
      | true =>
        have R := hid (show rvB m gs xs = gvalid gs by rw [hrv, hM]; rfl)
        have hM := hid hM
        clear hrv
        go_wp2_with fail
        refine (l11Message_ar hM.out _).mono ?_
        rintro e w' ⟨rfl, rfl⟩
        go_wp2_with fail
        refine (GroupsValid_spec _ hr9.out hh1).mono ?_
        rintro e w2 ⟨rfl, hq⟩
        have hB2 := hid (hB.out.trans (hq.below _))
        clear hq
        go_wp2
        go_ret
        exact ⟨by rw [R.out]; rfl, hB2.out⟩

theorem RoundValid_spec {n1 c1 n2 c2 : Nat} {A1 A2 : Option Addr} {gs : List Int} {xs : List St} {m : Int} {b : Bool} (hb : rvB m gs xs = b) (w : World) (hr : RdR w A1 n1 A2 n2 c2 gs xs) :
    Calls Try.prog 23 #[rnV m (.slice A1 n1 c1) (.slice A2 n2 c2)] w fun e w' => e = .returned (.bool b) ∧ Below w.heap.size w w' := by
  subst hb; exact RoundValid_spec_any m w hr

end Go.Proofs.Ytccggcdjajehnaa
