/-
  The walk of the law FnTraceOne. No condition.
-/
import Derived.Test.YtdhafappclcijaaTlM
import Derived.Test.YtdhafappclcijaaBw
namespace Go.Proofs.Ytdhafappclcijaa
open Go.RowKit
set_option linter.unusedVariables false
set_option linter.unusedSimpArgs false

theorem take_snocU {zss : List (List Int)} {k : Nat} {z : List Int} (h : zss[k]? = some z) : zss.take (k + 1) = zss.take k ++ [z] := by
  obtain ⟨hk, e⟩ := List.getElem?_eq_some_iff.1 h
  rw [List.take_succ_eq_append_getElem hk, e]

theorem BW.cellT {W : World} (x : BW W) {p : Addr} {v : Value} (h : W.cell? p = some v) : x.wd.cell? p = some v := (x.below.cell (World.block_lt_of_cell? W _ h)).trans h

set_option maxRecDepth 100000 in
set_option maxHeartbeats 8000000 in
theorem lawTraceOne {a : Option Addr} {len cap : Nat} {cs : List Int} (w : World) (h : RowIs .u8 w a len cap cs) :
    Calls Try.prog 8 #[.slice a len cap] w fun e w' => e = .returned (.bool true) ∧ Below w.heap.size w w' := by
  have h' := hid h
  clear h
  by_cases hbig : len ≤ 1048576
  · go_enter Try.func8, Try.ntmps8
    go_wp2_with fail
    refine (DrawTracesValid_any w h'.out).mono ?_
    rintro e w1 ⟨v, zss, rfl, hT, hl1, hsh, hb1⟩
    have hB1 := hid hb1
    have hs1 := hb1.size
    have hS := hid hsh.sht
    have hS10 := hid hsh
    obtain ⟨A, n, c, rfl, hn, hnc, hc⟩ := hT.atT
    have hT1 := hid hT
    rw [hn] at hl1
    have hn' := hid hn
    clear hT hsh hb1 hn
    obtain ⟨K, hK⟩ : ∃ K, trsB zss = K := ⟨_, rfl⟩
    have hK := hid hK
    go_wp2_with fail
    refine (TracesValid_isI hK.out w1 hT1.out.rdT (by omega) hS.out).mono ?_
    rintro e w2 ⟨rfl, hb⟩
    have hT2 := hid (hT1.out.below hb)
    have hB2 := hid (hB1.out.trans (hb.mono hs1))
    have hs2 := hb.size
    clear hb hT1 hB1
    go_wp2_with fail
    refine (TracesValid_as hK.out w2 hT2.out.rdT (by omega) hS.out).mono ?_
    rintro e w3 ⟨rfl, hq⟩
    have hT3 := hid (hT2.out.quiet hq)
    have hB3 := hid (hB2.out.trans (hq.below _))
    have hs3 : w2.heap.size ≤ w3.heap.size := Nat.le_of_eq hq.size.symm
    clear hq hT2 hB2
    cases K with
    | false =>
      go_wp2
      go_ret
      exact ⟨rfl, hB3.out⟩
    | true =>
      by_cases h0 : n = 0
      · have h0' : ((n : Int) == 0) = true := by simp [h0]
        clear h0
        go_wp2
        go_ret
        exact ⟨rfl, hB3.out⟩
      · have h0' : ((n : Int) == 0) = false := by simp [h0]
        obtain ⟨ad, Ai, mi, ci, ti, rfl, hti, hmi, hab, hct, hri, hmc, hcc⟩ := hT3.out.rdT.at_ (k := 0) (by omega)
        have hct := hid hct
        have htk := hid (show zss.take 1 = [ti] by
          have h1 := take_snocU hti.out
          simpa using h1)
        have htr := hid ((trsB_true.1 hK.out).1 ti (List.mem_of_getElem? hti.out))
        have hr3 := hid (hT3.out.rdT.take (k := 1) (by omega))
        have hS1 := hid (show ShT (zss.take 1) from fun t ht => hS.out t (List.mem_of_mem_take ht))
        have o1 := hid (show okT (zss.take 1) = true by rw [htk.out]; exact (one_same htr.out).1)
        have o2 := hid (show toR (zss.take 1) = ti by rw [htk.out, toR, if_pos (one_same htr.out).1]; exact (one_same htr.out).2)
        have hfo := hid (follows_self htr.out)
        have hmi9 : mi < 1099511627776 := by rw [← hmi.out]; exact hS.out _ (List.mem_of_getElem? hti.out)
        have hc1 : 1 ≤ c := by omega
        have hc1' : (1 : Int) ≤ (c : Int) := by omega
        have hn1 : 0 < n := by omega
        have hn1' : (0 : Int) < (n : Int) := by omega
        clear h0
        go_wp2_with fail
        refine (TraceOrder_isI o1.out o2.out hmi.out w3 hr3.out (by omega) hS1.out).mono ?_
        rintro e w4 ⟨A4, c4, rfl, ho, hb, hxc, hxc2⟩
        have lx_4 := hid (Lv.ofI ho)
        have hB4 := hid (hB3.out.trans (hb.mono (by omega)))
        have hs4 := hb.size
        have hct4 : w4.cell? (ad.add 0) = some (.slice Ai mi ci) := (hb.cell (by rw [block_of_add]; exact hab)).trans hct.out
        have G0 : ∀ x : BW w4, x.wd.cell? ad = some (.slice Ai mi ci) := fun x => x.cellT hct4
        have HR : Hid (∀ x : BW w4, RdI x.wd w3.heap.size Ai mi ti) := hid (fun x => Reads.below (Reads.below hri.out hb) (x.below.mono hs4))
        have HX : Hid (∀ x : BW w4, RdI x.wd w4.heap.size A4 mi ti) := hid (fun x => Reads.below lx_4.out.at_ x.below)
        clear ho hb hT3 hB3 hr3 hct4
        go_wp2_with fail
        refine wp_region_below (by kernel_rfl) (by kernel_rfl) ?_
        repeat (go_big_quiet_step ((first | (go_at_call 18; exact BW.call _ ((sameInts_self _ (HX.out _) (HR.out _) hmi9).mono (fun e w' h => ⟨h.1, h.2.below _⟩))) | (go_at_call 19; exact BW.call _ (TraceFollows_isI hfo.out _ (HR.out _) (HR.out _) hmi9 hmi9 hmc hmc hcc hcc)))))
        refine wpQuiet_nil ?_
        intro w5 hb5
        have hB5 := hid (hB4.out.trans (hb5.mono (by omega)))
        clear hb5
        go_wp2
        go_ret
        exact ⟨rfl, hB5.out⟩
  · go_enter Try.func8, Try.ntmps8
    go_wp2
    go_ret
    exact ⟨rfl, Below.refl _ _⟩
end Go.Proofs.Ytdhafappclcijaa
