/-
  Contract of the model's TraceFollows. No condition but lengths below 2^40.
-/
import Derived.Test.YtdhafappclcijaaTrC
namespace Go.Proofs.Ytdhafappclcijaa
open Go.RowKit
set_option linter.unusedVariables false
set_option linter.unusedSimpArgs false

theorem sub_skip {x y : Int} {t o : List Int} (h : x ≠ y) : (x :: t).Sublist (y :: o) ↔ (x :: t).Sublist o := by
  constructor
  · intro hs
    cases hs with
    | cons _ hs => exact hs
    | cons_cons _ hs => exact absurd rfl h
  · exact .cons _

theorem sub_keep {x : Int} {t o : List Int} (h : t.head? ≠ some x) : (x :: t).Sublist (x :: o) ↔ t.Sublist (x :: o) := by
  constructor
  · intro hs
    exact (List.sublist_cons_self x t).trans hs
  · intro hs
    rw [List.cons_sublist_cons]
    cases hs with
    | cons _ hs => exact hs
    | cons_cons _ hs => exact absurd rfl h

theorem drop_at {l : List Int} {k : Nat} {x : Int} (h : l[k]? = some x) : l.drop k = x :: l.drop (k + 1) := by
  obtain ⟨hk, e⟩ := List.getElem?_eq_some_iff.1 h
  rw [← e]; exact List.drop_eq_getElem_cons hk

theorem head_next {l : List Int} (hn : l.Nodup) {k : Nat} {x : Int} (h : l[k]? = some x) : (l.drop (k + 1)).head? ≠ some x := by
  intro he
  rw [List.head?_drop] at he
  obtain ⟨k1, e1⟩ := List.getElem?_eq_some_iff.1 h
  obtain ⟨k2, e2⟩ := List.getElem?_eq_some_iff.1 he
  have a := hn.idxOf_getElem k k1
  have b := hn.idxOf_getElem (k + 1) k2
  rw [e1] at a
  rw [e2] at b
  omega

set_option maxRecDepth 100000 in
set_option maxHeartbeats 4000000 in
theorem TraceFollows_spec {B B' n c m d : Nat} {A A' : Option Addr} {zs os : List Int} (w : World) (hr : RdI w B A n zs) (hk : RdI w B' A' m os) (hn : n < 1099511627776) (hm : m < 1099511627776) (hnc : n ≤ c) (hmd : m ≤ d) (hc : c ≤ 9223372036854775807) (hd : d ≤ 9223372036854775807) :
    Calls Try.prog 29 #[.slice A n c, .slice A' m d] w fun e w' => e = .returned (.bool (foR zs os)) ∧ Qt w w' := by
  have hl' := hid hr.len
  have hk' := hid hk.len
  have hr' := hid hr
  have ho' := hid hk
  clear hr hk
  cases hv : trB zs with
  | false =>
    have hno := hid (show foR zs os = false by unfold foR; rw [hv]; rfl)
    have hv' := hid hv
    clear hv
    go_enter Try.func29, Try.ntmps29
    go_wp2_with fail
    refine (l21List_as hv'.out _ hr'.out hn hnc hc).mono ?_
    rintro e w1 ⟨rfl, hq1⟩
    go_wp2
    go_ret
    exact ⟨ret_bool hno.out.symm, hq1⟩
  | true =>
    have hnd := hid (trB_true.1 hv).1
    cases hu : trB os with
    | false =>
      have hno := hid (show foR zs os = false by unfold foR; rw [hv, hu]; rfl)
      have hv' := hid hv
      have hu' := hid hu
      clear hv hu
      go_enter Try.func29, Try.ntmps29
      go_wp2_with fail
      refine (l21List_as hv'.out _ hr'.out hn hnc hc).mono ?_
      rintro e w1 ⟨rfl, hq1⟩
      go_wp2_with fail
      refine (l21List_as hu'.out _ (hq1.reads ho'.out) hm hmd hd).mono ?_
      rintro e w2 ⟨rfl, hq2⟩
      have hq3 := hq1.trans hq2
      clear hq1 hq2
      go_wp2
      go_ret
      exact ⟨ret_bool hno.out.symm, hq3⟩
    | true =>
      have hfo := hid (show foR zs os = zs.isSublist os by unfold foR; rw [hv, hu]; rfl)
      have hv' := hid hv
      have hu' := hid hu
      clear hv hu
      go_enter Try.func29, Try.ntmps29
      go_wp2_with fail
      refine (l21List_as hv'.out _ hr'.out hn hnc hc).mono ?_
      rintro e w1 ⟨rfl, hq1⟩
      go_wp2_with fail
      refine (l21List_as hu'.out _ (hq1.reads ho'.out) hm hmd hd).mono ?_
      rintro e w2 ⟨rfl, hq2⟩
      have hq3 := hq1.trans hq2
      clear hq1 hq2
      go_wp2
      go_loopw [5, 6] (fun p i wr => ∃ (q k : Nat), k ≤ n ∧ q ≤ m ∧ i = .int .i64 k ∧ p = .int .i64 q ∧ Qt w wr ∧ Hid (zs.Sublist os ↔ (zs.drop k).Sublist (os.drop q))) (fun _ i _ => n - (intOf i).toNat)
      case atStart => exact ⟨0, 0, by omega, by omega, rfl, rfl, hq3, hid Iff.rfl⟩
      case round =>
        clear hq3
        obtain ⟨q, k, hkn, hqm, rfl, rfl, hqt, hinv⟩ := hrel
        by_cases hlt : k < n
        · have hkl : k < zs.length := by rw [hl'.out]; exact hlt
          obtain ⟨z, hzg⟩ : ∃ z, zs[k]? = some z := ⟨_, List.getElem?_eq_getElem hkl⟩
          have hzd := drop_at hzg
          have hzh := hid (head_next hnd.out hzg)
          have hzg' := hid hzg
          have hzd' := hid hzd
          have i0 : (0 : Int) ≤ (k : Int) := by omega
          have i1 : (k : Int) < (n : Int) := by omega
          clear hzg hzd
          go_wp2
          go_loopw [5] (fun p wq => ∃ q : Nat, q ≤ m ∧ p = .int .i64 q ∧ Qt w wq ∧ Hid (zs.Sublist os ↔ (zs.drop k).Sublist (os.drop q))) (fun p _ => m - (intOf p).toNat)
          case atStart => exact ⟨q, hqm, rfl, hqt, hinv⟩
          case round =>
            clear hqt hinv hqm
            obtain ⟨q, hqm, rfl, hqt, hinv⟩ := hrel
            by_cases hlq : q < m
            · obtain ⟨ad, z2, rfl, hz2, hcz⟩ := RdI.at' (hqt.reads hr'.out) hlt
              obtain ⟨ad2, y, rfl, hy, hcy⟩ := RdI.at' (hqt.reads ho'.out) hlq
              have hyg := getD_of (by rw [hk'.out]; exact hlq) hy.out
              have hz9 := getD_of (by rw [hl'.out]; exact hlt) hz2.out
              obtain rfl : z2 = z := by
                rw [hzg'.out] at hz9
                injection hz9 with hz9
                exact hz9.symm
              have hyd := drop_at hyg
              have j0 : (0 : Int) ≤ (q : Int) := by omega
              have j1 : (q : Int) < (m : Int) := by omega
              have j2 : decide ((q : Int) < (m : Int)) = true := by simp; omega
              have j3 : ((q : Int) == (m : Int)) = false := by rw [beq_eq_false_iff_ne]; omega
              by_cases he : y = z2
              · subst he
                have hnx := hid (show zs.Sublist os ↔ (zs.drop (k + 1)).Sublist (os.drop q) from by
                  rw [hinv.out, hzd'.out, hyd]
                  exact sub_keep hzh.out)
                have hyy : (y != y) = false := by simp
                clear hz9 hyg hyd
                go_wp2
                go_quiet (fail)
                go_wp2
                go_roundw
                case rel => exact ⟨q, k + 1, by omega, by omega, by go_num, rfl, hqt.drewN _, hnx⟩
                case measure => simp [intOf]; omega
              · have hnx := hid (show zs.Sublist os ↔ (zs.drop k).Sublist (os.drop (q + 1)) from by
                  rw [hinv.out, hzd'.out, hyd]
                  exact sub_skip (fun e => he e.symm))
                have hyy : (y != z2) = true := by simp [he]
                clear hz9 hyg hyd he
                go_wp2
                go_quiet (fail)
                go_wp2
                go_roundw
                case rel => exact ⟨q + 1, by omega, by go_num, hqt.drewN _, hnx⟩
                case measure => simp [intOf]; omega
            · obtain rfl : q = m := by omega
              have hno := hid (show foR zs os = false from by
                rw [hfo.out]
                cases hs : zs.isSublist os with
                | false => rfl
                | true =>
                  have := hinv.out.1 (List.isSublist_iff_sublist.1 hs)
                  have e0 : os.drop q = [] := List.drop_of_length_le (by rw [hk'.out]; omega)
                  rw [hzd'.out, e0] at this
                  cases this)
              have j2 : decide ((q : Int) < (q : Int)) = false := by simp
              have j3 : ((q : Int) == (q : Int)) = true := by simp
              obtain ⟨ad, z2, rfl, hz2, hcz⟩ := RdI.at' (hqt.reads hr'.out) hlt
              go_wp2
              go_quiet (fail)
              go_wp2
              go_ret
              exact ⟨ret_bool hno.out.symm, hqt.drewN _⟩
        · have hyes := hid (show foR zs os = true from by
            rw [hfo.out, List.isSublist_iff_sublist, hinv.out, List.drop_of_length_le (by rw [hl'.out]; omega)]
            exact List.nil_sublist _)
          have hk1 : ¬ ((k : Int) < (n : Int)) := by omega
          go_wp2
          go_ret
          exact ⟨ret_bool hyes.out.symm, hqt⟩
end Go.Proofs.Ytdhafappclcijaa
