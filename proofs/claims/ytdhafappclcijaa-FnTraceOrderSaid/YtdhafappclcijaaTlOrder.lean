/-
  The walk of the law FnTraceOrder. No condition.
-/
import Derived.Test.YtdhafappclcijaaTlM
namespace Go.Proofs.Ytdhafappclcijaa
open Go.RowKit
set_option linter.unusedVariables false
set_option linter.unusedSimpArgs false

theorem hasB_contains (zs : List Int) (x : Int) : hasB zs x = zs.contains x := by
  rw [Bool.eq_iff_iff, hasB_mem]; simp

theorem take_snocT {zss : List (List Int)} {k : Nat} {z : List Int} (h : zss[k]? = some z) : zss.take (k + 1) = zss.take k ++ [z] := by
  obtain ⟨hk, e⟩ := List.getElem?_eq_some_iff.1 h
  rw [List.take_succ_eq_append_getElem hk, e]
/-- how many of the first messages a trace holds -/
def cntT (zss : List (List Int)) (q : Nat) : Nat := ((List.range q).filter fun (i : Nat) => zss.any fun t => t.contains (i : Int)).length

theorem cntT_le (zss : List (List Int)) (q : Nat) : cntT zss q ≤ q := by
  have := List.length_filter_le (fun (i : Nat) => zss.any fun t => t.contains (i : Int)) (List.range q)
  simpa [cntT] using this

theorem cntT_succ (zss : List (List Int)) (q : Nat) : cntT zss (q + 1) = cntT zss q + (if (zss.any fun t => t.contains (q : Int)) then 1 else 0) := by
  unfold cntT
  rw [List.range_succ, List.filter_append, List.length_append]
  congr 1
  cases h : (zss.any fun t => t.contains (q : Int)) with
  | true => simp only [List.filter_cons, List.filter_nil, h]; rfl
  | false => simp only [List.filter_cons, List.filter_nil, h]; rfl

theorem cntT_12 (zss : List (List Int)) : cntT zss 12 = (msg12.filter fun m => zss.any fun t => t.contains m).length := by
  unfold cntT msg12
  rw [List.filter_map, List.length_map]
  rfl

set_option maxRecDepth 100000 in
set_option maxHeartbeats 8000000 in
theorem lawTraceOrder {a : Option Addr} {len cap : Nat} {cs : List Int} (w : World) (h : RowIs .u8 w a len cap cs) :
    Calls Try.prog 3 #[.slice a len cap] w fun e w' => e = .returned (.bool true) ∧ Below w.heap.size w w' := by
  have h' := hid h
  clear h
  by_cases hbig : len ≤ 1048576
  · go_enter Try.func3, Try.ntmps3
    go_wp2_with fail
    refine (DrawTraceOrder_any w h'.out).mono ?_
    rintro e w1 ⟨v, zss, rfl, hT, hl1, hsh, hb1⟩
    have hB1 := hid hb1
    have hs1 := hb1.size
    have hS := hid hsh.sht
    have hS10 := hid hsh
    obtain ⟨A, n, c, rfl, hn, hnc, hc⟩ := hT.atT
    have hT1 := hid hT
    rw [hn] at hl1
    have hn' := hid hn
    clear hT hsh hb1 hn
    obtain ⟨K, hK⟩ : ∃ K, okT zss = K := ⟨_, rfl⟩
    obtain ⟨O, hO⟩ : ∃ O, toR zss = O := ⟨_, rfl⟩
    obtain ⟨m, hm⟩ : ∃ m, O.length = m := ⟨_, rfl⟩
    have hm12 : m ≤ 12 := by rw [← hm, ← hO]; exact toR_len
    have hK := hid hK
    have hO := hid hO
    have hm := hid hm
    go_wp2_with fail
    refine (TraceOrder_isI hK.out hO.out hm.out w1 hT1.out.rdT (by omega) hS.out).mono ?_
    rintro e w2 ⟨A2, c2, rfl, ho, hb, hoc, hoc2⟩
    have lo_2 := hid (Lv.ofI ho)
    have hT2 := hid (hT1.out.below hb)
    have hB2 := hid (hB1.out.trans (hb.mono hs1))
    have hs2 := hb.size
    clear ho hb hT1 hB1
    go_wp2_with fail
    refine (TraceOrder_isS hK.out hO.out hm.out w2 hT2.out.rdT (by omega) hS.out).mono ?_
    rintro e w3 ⟨A3, c3, rfl, hp, hb, hpc, hpc2⟩
    have lp_3 := hid (Lv.ofI hp)
    have lo_3 := hid (lo_2.out.step hb)
    have hT3 := hid (hT2.out.below hb)
    have hB3 := hid (hB2.out.trans (hb.mono (by omega)))
    have hs3 := hb.size
    clear hp hb hT2 hB2 lo_2
    have hKK : (K != K) = false := by cases K <;> rfl
    have hKE : (K == K) = true := by cases K <;> rfl
    go_wp2_with fail
    refine (sameInts_self w3 lo_3.out.at_ lp_3.out.at_ (by omega)).mono ?_
    rintro e w4 ⟨rfl, hq⟩
    have lo_4 := hid (lo_3.out.quiet hq)
    have lp_4 := hid (lp_3.out.quiet hq)
    have hT4 := hid (hT3.out.quiet hq)
    have hB4 := hid (hB3.out.trans (hq.below _))
    have hs4 : w3.heap.size ≤ w4.heap.size := Nat.le_of_eq hq.size.symm
    clear hq lo_3 lp_3 hT3 hB3
    cases K with
    | false =>
      go_wp2_with fail
      refine (sameInts_self w4 lo_4.out.at_ lp_4.out.at_ (by omega)).mono ?_
      rintro e w5 ⟨rfl, hq⟩
      have lo_5 := hid (lo_4.out.quiet hq)
      have lp_5 := hid (lp_4.out.quiet hq)
      have hT5 := hid (hT4.out.quiet hq)
      have hB5 := hid (hB4.out.trans (hq.below _))
      have hs5 : w4.heap.size ≤ w5.heap.size := Nat.le_of_eq hq.size.symm
      clear hq lo_4 lp_4 hT4 hB4
      go_wp2
      go_ret
      exact ⟨rfl, hB5.out⟩
    | true =>
      have hra := hid hT4.out.rdT
      have hOe := hid (show ordT zss = O by rw [← hO.out, toR, if_pos hK.out])
      clear lp_4 hT4
      go_wp2
      go_loopw [9] (fun i wr => ∃ k : Nat, k ≤ n ∧ i = .int .i64 k ∧ Hid (Below w4.heap.size w4 wr)) (fun i _ => n - (intOf i).toNat)
      case atStart => exact ⟨0, Nat.zero_le _, rfl, hid (Below.refl _ _)⟩
      case round =>
        obtain ⟨k, hk, rfl, hb⟩ := hrel
        have hwz : w4.heap.size ≤ wr.heap.size := hb.out.size
        by_cases hlt : k < n
        · obtain ⟨ad, Ai, mi, ci, ti, rfl, hti, hmi, -, hci, hri, hmc, hcc⟩ := (hra.out.below hb.out).at_ hlt
          have lo_r := hid (lo_4.out.step hb.out)
          have hfo := hid (show foR ti O = true by rw [← hOe.out]; exact ord_follows hK.out (List.mem_of_getElem? hti.out))
          have x0 : (k : Int) < (n : Int) := by omega
          have hmi9 : mi < 1099511627776 := by rw [← hmi.out]; exact hS.out _ (List.mem_of_getElem? hti.out)
          go_wp2_with fail
          refine (TraceFollows_isI hfo.out wr hri.out lo_r.out.at_ hmi9 (by omega) hmc hoc hcc hoc2).mono ?_
          rintro e w5 ⟨rfl, hb5⟩
          have hb5 := hid hb5
          go_wp2
          go_roundw
          case rel => exact ⟨k + 1, by omega, by go_num, hid (hb.out.trans (hb5.out.mono hwz))⟩
          case measure => simp [intOf]; omega
        · have x0 : ¬ (k : Int) < (n : Int) := by omega
          have hr6 := hid (hra.out.step hb.out)
          have lo_6 := hid ((lo_4.out.step hb.out).at_)
          have hB6 := hid (hB4.out.trans (hb.out.mono (by omega)))
          clear hra lo_4 hB4 hb hwz
          obtain ⟨w6, rfl⟩ : ∃ w6, w6 = wr := ⟨_, rfl⟩
          go_wp2
          go_loopw [8, 10] (fun nv mv w2 => ∃ q : Nat, q ≤ 12 ∧ mv = .int .i64 q ∧ nv = .int .i64 (cntT zss q) ∧ Hid (Qt w6 w2)) (fun _ i _ => 12 - (intOf i).toNat)
          case atStart => exact ⟨0, Nat.zero_le _, rfl, rfl, hid (Qt.refl _)⟩
          case round =>
            obtain ⟨q, hq12, rfl, rfl, hq⟩ := hrel
            have hcq := cntT_le zss q
            obtain ⟨cq, hcqe⟩ : ∃ cq, cntT zss q = cq := ⟨_, rfl⟩
            rw [hcqe] at hcq ⊢
            have hcqe := hid hcqe
            by_cases hltq : q < 12
            · have x1 : (q : Int) < 12 := by omega
              go_wp2
              go_loopw [11, 12] (fun fv iv w3 => ∃ (k : Nat) (f : Bool), k ≤ n ∧ iv = .int .i64 k ∧ fv = .bool f ∧ Hid (f = (zss.take k).any fun t => t.contains (q : Int)) ∧ Hid (Qt w6 w3)) (fun _ i _ => n - (intOf i).toNat)
              case atStart => exact ⟨0, false, Nat.zero_le _, rfl, rfl, hid rfl, hq⟩
              case round =>
                clear hq
                obtain ⟨j, f, hj, rfl, rfl, hf, hq⟩ := hrel
                by_cases hltj : j < n
                · obtain ⟨ad, Ai, mi, ci, ti, rfl, hti, hmi, -, hci, hri, hmc, hcc⟩ := hr6.out.at_ hltj
                  have c1 := hq.out.cellT hci
                  have x2 : (j : Int) < (n : Int) := by omega
                  have hsn := hid (show ((zss.take (j + 1)).any fun t => t.contains (q : Int)) = (f || ti.contains (q : Int)) by
                    rw [take_snocT hti.out, List.any_append, hf.out]; simp)
                  clear hci
                  cases f with
                  | true =>
                    go_wp2
                    go_roundw
                    case rel => exact ⟨j + 1, true, by omega, by go_num, rfl, hid (by rw [hsn.out]; rfl), hq⟩
                    case measure => simp [intOf]; omega
                  | false =>
                    obtain ⟨d, hd⟩ : ∃ d, ti.contains (q : Int) = d := ⟨_, rfl⟩
                    have hd' := hid ((hasB_contains ti q).trans hd)
                    have hd := hid hd
                    have hmi9 : mi < 1099511627776 := by rw [← hmi.out]; exact hS.out _ (List.mem_of_getElem? hti.out)
                    go_wp2_with fail
                    refine (hasInt_asT hd'.out _ (hq.out.reads hri.out) hmi9).mono ?_
                    rintro e w' ⟨rfl, rfl⟩
                    go_wp2
                    go_roundw
                    case rel => exact ⟨j + 1, d, by omega, by go_num, rfl, hid (by rw [hsn.out, hd.out]; rfl), hq⟩
                    case measure => simp [intOf]; omega
                · have hall := hid (show (zss.any fun t => t.contains (q : Int)) = f by
                    rw [hf.out, List.take_of_length_le (by rw [hn'.out]; omega)])
                  have x2 : ¬ (j : Int) < (n : Int) := by omega
                  have hhas := hid (show hasB O (q : Int) = f by
                    rw [hasB_contains, ← hOe.out, ← ord_has hK.out (by omega) (by omega)]; exact hall.out)
                  have hst := hid (show cntT zss (q + 1) = cq + (if f then 1 else 0) by
                    rw [cntT_succ, hcqe.out, hall.out])
                  clear hf
                  cases f with
                  | true =>
                    go_wp2_with fail
                    refine (hasInt_asT hhas.out _ (hq.out.reads lo_6.out) (by omega)).mono ?_
                    rintro e w' ⟨rfl, rfl⟩
                    go_wp2
                    go_roundw
                    case rel => exact ⟨q + 1, by omega, by go_num, by rw [hst.out]; go_num, hq⟩
                    case measure => simp [intOf]; omega
                  | false =>
                    go_wp2_with fail
                    refine (hasInt_asT hhas.out _ (hq.out.reads lo_6.out) (by omega)).mono ?_
                    rintro e w' ⟨rfl, rfl⟩
                    go_wp2
                    go_roundw
                    case rel => exact ⟨q + 1, by omega, by go_num, by rw [hst.out]; rfl, hq⟩
                    case measure => simp [intOf]; omega
            · have hqe : q = 12 := by omega
              subst hqe
              have hce : cq = m := by rw [← hcqe.out, cntT_12, ord_count hK.out, hOe.out, hm.out]
              subst hce
              go_wp2
              go_ret
              exact ⟨rfl, hB6.out.trans (hq.out.below _)⟩
  · go_enter Try.func3, Try.ntmps3
    go_wp2
    go_ret
    exact ⟨rfl, Below.refl _ _⟩
end Go.Proofs.Ytdhafappclcijaa
