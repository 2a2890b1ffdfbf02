/-
  The walk of the law FnTraceCycle. No condition.
-/
import Derived.Test.YtdhafappclcijaaTlM
namespace Go.Proofs.Ytdhafappclcijaa
open Go.RowKit
set_option linter.unusedVariables false
set_option linter.unusedSimpArgs false

theorem nx_snocT {zss : List (List Int)} {k : Nat} {t : List Int} {a c : Int} (h : zss[k]? = some t) : nxT (zss.take (k + 1)) a c = (nxT (zss.take k) a c || csB t a c) := by
  obtain ⟨hk, e⟩ := List.getElem?_eq_some_iff.1 h
  rw [List.take_succ_eq_append_getElem hk, e, nxT, List.any_append, nxT]; simp

theorem cs_oneT {t : List Int} {a c : Int} : csB (t.take 1) a c = false := by
  refine cs_none fun j h1 h2 => ?_
  rw [List.getElem?_take] at h2
  simp at h2

theorem cs_snocT {t : List Int} {q : Nat} {a c x y : Int} (hq : 1 ≤ q) (hx : t[q - 1]? = some x) (hy : t[q]? = some y) : csB (t.take (q + 1)) a c = (csB (t.take q) a c || (x == a && y == c)) := by
  rw [Bool.eq_iff_iff, Bool.or_eq_true, csB_true, csB_true, Bool.and_eq_true, beq_iff_eq, beq_iff_eq]
  constructor
  · rintro ⟨k, h1, h2⟩
    rw [List.getElem?_take] at h1 h2
    split at h2
    · rename_i h3
      rw [if_pos (by omega)] at h1
      by_cases e : k + 1 = q
      · right
        subst e
        rw [Nat.add_sub_cancel, h1] at hx
        rw [h2] at hy
        injection hx with hx
        injection hy with hy
        exact ⟨hx.symm, hy.symm⟩
      · left
        exact ⟨k, by rw [List.getElem?_take, if_pos (by omega)]; exact h1, by rw [List.getElem?_take, if_pos (by omega)]; exact h2⟩
    · cases h2
  · rintro (⟨k, h1, h2⟩ | ⟨rfl, rfl⟩)
    · rw [List.getElem?_take] at h1 h2
      split at h2
      · rename_i h3
        rw [if_pos (by omega)] at h1
        exact ⟨k, by rw [List.getElem?_take, if_pos (by omega)]; exact h1, by rw [List.getElem?_take, if_pos (by omega)]; exact h2⟩
      · cases h2
    · exact ⟨q - 1, by rw [List.getElem?_take, if_pos (by omega)]; exact hx, by rw [List.getElem?_take, show q - 1 + 1 = q by omega, if_pos (by omega)]; exact hy⟩

set_option maxRecDepth 100000 in
set_option maxHeartbeats 8000000 in
theorem lawTraceCycle {a : Option Addr} {len cap : Nat} {cs : List Int} (w : World) (h : RowIs .u8 w a len cap cs) :
    Calls Try.prog 5 #[.slice a len cap] w fun e w' => e = .returned (.bool true) ∧ Below w.heap.size w w' := by
  have h' := hid h
  clear h
  by_cases hbig : len ≤ 1048576
  · go_enter Try.func5, Try.ntmps5
    go_wp2_with fail
    refine (DrawTraceCycle_any w h'.out).mono ?_
    rintro e w1 ⟨v, zss, rfl, hT, hl1, hsh, hb1⟩
    have hB1 := hid hb1
    have hs1 := hb1.size
    have hS := hid hsh.sht
    have hS10 := hid hsh
    obtain ⟨A, n, c, rfl, hn, hnc, hc⟩ := hT.atT
    have hT1 := hid hT
    rw [hn] at hl1
    have hn' := hid hn
    clear hT hsh hb1 hn
    obtain ⟨O, hO⟩ : ∃ O, tcR zss = O := ⟨_, rfl⟩
    obtain ⟨m, hm⟩ : ∃ m, O.length = m := ⟨_, rfl⟩
    have hm12 : m ≤ 12 := by rw [← hm, ← hO]; exact tcR_len
    have hO := hid hO
    have hm := hid hm
    go_wp2_with fail
    refine (TraceCycle_isI hO.out hm.out w1 hT1.out.rdT (by omega) hS.out).mono ?_
    rintro e w2 ⟨A2, c2, rfl, ho, hb, hoc, hoc2⟩
    have lo_2 := hid (Lv.ofI ho)
    have hT2 := hid (hT1.out.below hb)
    have hB2 := hid (hB1.out.trans (hb.mono hs1))
    have hs2 := hb.size
    clear ho hb hT1 hB1
    go_wp2_with fail
    refine (TraceCycle_isS hO.out hm.out w2 hT2.out.rdT (by omega) hS.out).mono ?_
    rintro e w3 ⟨A3, c3, rfl, hp, hb, hpc, hpc2⟩
    have lp_3 := hid (Lv.ofI hp)
    have lo_3 := hid (lo_2.out.step hb)
    have hT3 := hid (hT2.out.below hb)
    have hB3 := hid (hB2.out.trans (hb.mono (by omega)))
    have hs3 := hb.size
    clear hp hb hT2 hB2 lo_2
    by_cases h0 : m = 0
    · have h0' : ((m : Int) == 0) = true := by simp [h0]
      clear h0
      go_wp2_with fail
      refine (sameInts_self w3 lo_3.out.at_ lp_3.out.at_ (by omega)).mono ?_
      rintro e w4 ⟨rfl, hq⟩
      have lo_4 := hid (lo_3.out.quiet hq)
      have lp_4 := hid (lp_3.out.quiet hq)
      have hT4 := hid (hT3.out.quiet hq)
      have hB4 := hid (hB3.out.trans (hq.below _))
      have hs4 : w3.heap.size ≤ w4.heap.size := Nat.le_of_eq hq.size.symm
      clear hq lo_3 lp_3 hT3 hB3
      go_wp2_with fail
      refine (sameInts_self w4 lo_4.out.at_ lp_4.out.at_ (by omega)).mono ?_
      rintro e w5 ⟨rfl, hq⟩
      have lo_5 := hid (lo_4.out.quiet hq)
      have lp_5 := hid (lp_4.out.quiet hq)
      have hT5 := hid (hT4.out.quiet hq)
      have hB5 := hid (hB4.out.trans (hq.below _))
      have hs5 : w4.heap.size ≤ w5.heap.size := Nat.le_of_eq hq.size.symm
      clear hq lo_4 lp_4 hT4 hB4
      go_wp2
      go_ret
      exact ⟨rfl, hB5.out⟩
    have h0' : ((m : Int) == 0) = false := by simp [h0]
    have hne : tcR zss ≠ [] := by
      rw [hO.out]; intro e
      have := hm.out
      rw [e] at this; simp at this; omega
    obtain ⟨hcyc, -, hm2, -⟩ := tc_facts hne
    rw [hO.out, hm.out] at hm2
    have hcyc := hid (show ∀ (i : Nat) (a c : Int), O[i]? = some a → O[(i + 1) % m]? = some c → nxT zss a c = true from by
      have := hcyc
      rw [hO.out] at this
      intro i a c h1 h2
      exact this i a c h1 (by rw [hm.out]; exact h2))
    have hmp : 0 < m := by omega
    clear hne h0
    go_wp2_with fail
    refine (sameInts_self w3 lo_3.out.at_ lp_3.out.at_ (by omega)).mono ?_
    rintro e w4 ⟨rfl, hq⟩
    have lo_4 := hid (lo_3.out.quiet hq)
    have lp_4 := hid (lp_3.out.quiet hq)
    have hT4 := hid (hT3.out.quiet hq)
    have hB4 := hid (hB3.out.trans (hq.below _))
    have hs4 : w3.heap.size ≤ w4.heap.size := Nat.le_of_eq hq.size.symm
    clear hq lo_3 lp_3 hT3 hB3
    have hra := hid hT4.out.rdT
    have hro := hid lo_4.out.at_
    clear lo_4 lp_4 hT4
    go_wp2
    go_loopw [6] (fun i wr => ∃ k : Nat, k ≤ m ∧ i = .int .i64 k ∧ Hid (Qt w4 wr)) (fun i _ => m - (intOf i).toNat)
    case atStart => exact ⟨0, Nat.zero_le _, rfl, hid (Qt.refl _)⟩
    case round =>
      obtain ⟨i, hi, rfl, hq⟩ := hrel
      by_cases hlt : i < m
      · obtain ⟨ao, za, rfl, hza, hca⟩ := RdI.at' hro.out hlt
        have hmlt : (i + 1) % m < m := Nat.mod_lt _ hmp
        obtain ⟨ao2, zc, e2, hzc, hcc⟩ := RdI.at' hro.out hmlt
        injection e2 with e2
        subst e2
        have hnx := hid (hcyc.out i za zc (getD_of (by rw [hm.out]; exact hlt) hza.out) (getD_of (by rw [hm.out]; exact hmlt) hzc.out))
        have t1 : ((i : Int) + 1).tmod (m : Int) = (((i + 1) % m : Nat) : Int) := by rw [Int.tmod_eq_emod_of_nonneg (by omega)]; simp
        have hca := hid hca
        generalize (i + 1) % m = p at hmlt t1 hcc hzc
        have cp := hq.out.cellT hcc
        have x0 : (i : Int) < (m : Int) := by omega
        have x1 : (p : Int) < (m : Int) := by omega
        have x2 : (0 : Int) ≤ (p : Int) := by omega
        clear hcc hza hzc
        go_wp2
        go_loopw [8, 9] (fun fv kv w2 => ∃ (k : Nat) (f : Bool), k ≤ n ∧ kv = .int .i64 k ∧ fv = .bool f ∧ Hid (f = nxT (zss.take k) za zc) ∧ Hid (Qt w4 w2)) (fun _ i _ => n - (intOf i).toNat)
        case atStart => exact ⟨0, false, Nat.zero_le _, rfl, rfl, hid rfl, hq⟩
        case round =>
          clear hq cp
          obtain ⟨k, f, hk, rfl, rfl, hf, hq⟩ := hrel
          by_cases hltk : k < n
          · obtain ⟨ad, Ai, mi, ci, ti, rfl, hti, hmi, -, hct, hri, hmc, hcc⟩ := hra.out.at_ hltk
            have hct := hid hct
            have x3 : (k : Int) < (n : Int) := by omega
            have hmi9 : mi < 1099511627776 := by rw [← hmi.out]; exact hS.out _ (List.mem_of_getElem? hti.out)
            have hsn := hid (nx_snocT (a := za) (c := zc) hti.out)
            go_wp2
            go_loopw [8, 10] (fun fv jv w3 => ∃ (q : Nat) (f2 : Bool), 1 ≤ q ∧ q ≤ mi + 1 ∧ jv = .int .i64 q ∧ fv = .bool f2 ∧ Hid (f2 = (f || csB (ti.take q) za zc)) ∧ Hid (Qt w4 w3)) (fun _ i _ => mi + 1 - (intOf i).toNat)
            case atStart => exact ⟨1, f, by omega, by omega, rfl, rfl, hid (by rw [cs_oneT]; simp), hq⟩
            case round =>
              clear hq
              obtain ⟨q, f2, hq1, hq2, rfl, rfl, hf2, hq⟩ := hrel
              have c1 := hq.out.cellT hct.out
              by_cases hlq : q < mi
              · obtain ⟨at2, x, rfl, hx, hcx⟩ := RdI.at' (hq.out.reads hri.out) (k := q - 1) (by omega)
                obtain ⟨at3, y, e3, hy, hcy⟩ := RdI.at' (hq.out.reads hri.out) hlq
                injection e3 with e3
                subst e3
                have hqw : IntKind.i64.wrap ((q : Int) - 1) = (q : Int) - 1 := IntWalk.i64_in _ (by omega)
                have j0 : (0 : Int) ≤ (q : Int) - 1 := by omega
                have j1 : (q : Int) - 1 < (mi : Int) := by omega
                have j2 : ((q : Int) - 1).toNat = q - 1 := by omega
                have j3 : (0 : Int) ≤ (q : Int) := by omega
                have j4 : (q : Int) < (mi : Int) := by omega
                have hst := hid (cs_snocT (a := za) (c := zc) hq1 (getD_of (by rw [hmi.out]; omega) hx.out) (getD_of (by rw [hmi.out]; exact hlq) hy.out))
                have c3 := hq.out.cellT hca.out
                clear hx hy
                cases f2 with
                | true =>
                  go_wp2
                  go_quiet (fail)
                  go_wp2
                  go_roundw
                  case rel => exact ⟨q + 1, true, by omega, by omega, by go_num, rfl, hid (by rw [hst.out, ← Bool.or_assoc, ← hf2.out]; rfl), hid (hq.out.drewN _)⟩
                  case measure => simp [intOf]; omega
                | false =>
                  by_cases hxa : x = za
                  · subst hxa
                    by_cases hyc : y = zc
                    · subst hyc
                      go_wp2
                      go_quiet (fail)
                      go_wp2
                      go_roundw
                      case rel => exact ⟨q + 1, true, by omega, by omega, by go_num, rfl, hid (by rw [hst.out, ← Bool.or_assoc, ← hf2.out]; simp), hid (hq.out.drewN _)⟩
                      case measure => simp [intOf]; omega
                    · have hyn : (y == zc) = false := by simp [hyc]
                      have hr0 := hid (show false = (f || csB (ti.take (q + 1)) x zc) by rw [hst.out, ← Bool.or_assoc, ← hf2.out, hyn]; simp)
                      clear hyc hst
                      go_wp2
                      go_quiet (fail)
                      go_wp2
                      go_roundw
                      case rel => exact ⟨q + 1, false, by omega, by omega, by go_num, rfl, hr0, hid (hq.out.drewN _)⟩
                      case measure => simp [intOf]; omega
                  · have hxn : (x == za) = false := by simp [hxa]
                    have hr0 := hid (show false = (f || csB (ti.take (q + 1)) za zc) by rw [hst.out, ← Bool.or_assoc, ← hf2.out, hxn]; simp)
                    clear hxa hst
                    go_wp2
                    go_quiet (fail)
                    go_wp2
                    go_roundw
                    case rel => exact ⟨q + 1, false, by omega, by omega, by go_num, rfl, hr0, hid (hq.out.drewN _)⟩
                    case measure => simp [intOf]; omega
              · have hlq2 : ¬ (q : Int) < (mi : Int) := by omega
                have hff := hid (show f2 = nxT (zss.take (k + 1)) za zc by
                  rw [hf2.out, List.take_of_length_le (l := ti) (by rw [hmi.out]; omega), hsn.out, hf.out])
                clear hf2
                go_wp2
                go_roundw
                case rel => exact ⟨k + 1, f2, by omega, by go_num, rfl, hff, hq⟩
                case measure => simp [intOf]; omega
          · have x3 : ¬ (k : Int) < (n : Int) := by omega
            have hft : f = true := by
              rw [hf.out, List.take_of_length_le (by rw [hn'.out]; omega)]; exact hnx.out
            clear hf
            subst hft
            go_wp2
            go_roundw
            case rel => exact ⟨i + 1, by omega, by go_num, hq⟩
            case measure => simp [intOf]; omega
      · have x0 : ¬ (i : Int) < (m : Int) := by omega
        have x1 : (2 : Int) ≤ (m : Int) := by omega
        go_wp2
        go_ret
        exact ⟨rfl, hB4.out.trans (hq.out.below _)⟩
  · go_enter Try.func5, Try.ntmps5
    go_wp2
    go_ret
    exact ⟨rfl, Below.refl _ _⟩
end Go.Proofs.Ytdhafappclcijaa
