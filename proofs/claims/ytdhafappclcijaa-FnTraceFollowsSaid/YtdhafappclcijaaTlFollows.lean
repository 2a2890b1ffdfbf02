/-
  The walk of the law FnTraceFollows. No condition.
-/
import Derived.Test.YtdhafappclcijaaTlM
namespace Go.Proofs.Ytdhafappclcijaa
open Go.RowKit
set_option linter.unusedVariables false

set_option maxRecDepth 100000 in
set_option maxHeartbeats 8000000 in
theorem lawTraceFollows {a : Option Addr} {len cap : Nat} {cs : List Int} (w : World) (h : RowIs .u8 w a len cap cs) :
    Calls Try.prog 11 #[.slice a len cap] w fun e w' => e = .returned (.bool true) ∧ Below w.heap.size w w' := by
  have h' := hid h
  clear h
  by_cases hbig : len ≤ 1048576
  · go_enter Try.func11, Try.ntmps11
    go_wp2_with fail
    refine (DrawTraceFollows_any w h'.out).mono ?_
    rintro e w1 ⟨v, u, xs, ys, rfl, ho1, ho2, hl1, hl2, hb1⟩
    have la_1 := hid (Lv.ofI ho1)
    have lb_1 := hid (Lv.ofI ho2)
    have hB1 := hid hb1
    have hs1 := hb1.size
    clear ho1 ho2 hb1
    obtain ⟨A, c, rfl⟩ := la_1.out.rd
    obtain ⟨A', c', rfl⟩ := lb_1.out.rd
    have ca := OwI.capT la_1.out.1.1
    have cb := OwI.capT lb_1.out.1.1
    obtain ⟨K, hK⟩ : ∃ K, foR xs ys = K := ⟨_, rfl⟩
    have hK' := hid hK
    clear hK
    go_wp2_with fail
    refine (TraceFollows_impl _ la_1.out.at_ lb_1.out.at_ (by omega) (by omega) ca.1 cb.1 ca.2 cb.2).mono ?_
    rw [hK'.out]
    rintro e w2 ⟨rfl, hb⟩
    have la_2 := hid (la_1.out.step hb)
    have lb_2 := hid (lb_1.out.step hb)
    have hB2 := hid (hB1.out.trans (hb.mono hs1))
    have hs2 := hb.size
    clear hb la_1 lb_1 hB1
    go_wp2_with fail
    refine (TraceFollows_spec _ la_2.out.at_ lb_2.out.at_ (by omega) (by omega) ca.1 cb.1 ca.2 cb.2).mono ?_
    rw [hK'.out]
    rintro e w3 ⟨rfl, hq⟩
    have la_3 := hid (la_2.out.quiet hq)
    have lb_3 := hid (lb_2.out.quiet hq)
    have hB3 := hid (hB2.out.trans (hq.below _))
    clear hq la_2 lb_2 hB2
    cases K with
    | false =>
      go_wp2
      go_ret
      exact ⟨rfl, hB3.out⟩
    | true =>
      have hfa := hid (follows_all hK'.out)
      have hxl := hid (show xs.length = xs.length from rfl)
      obtain ⟨n, hn⟩ : ∃ n, xs.length = n := ⟨_, rfl⟩
      have hra := hid (show RdI w3 w3.heap.size A n xs from hn ▸ la_3.out.at_)
      have hrb := hid lb_3.out.at_
      clear hxl la_3 lb_3
      rw [hn] at hl1 ca ⊢
      have hn' := hid hn
      clear hn
      go_wp2
      go_loopw [7] (fun i wr => ∃ k : Nat, k ≤ n ∧ i = .int .i64 k ∧ Hid (Qt w3 wr)) (fun i _ => n - (intOf i).toNat)
      case atStart => exact ⟨0, Nat.zero_le _, rfl, hid (Qt.refl _)⟩
      case round =>
        obtain ⟨k, hk, rfl, hq⟩ := hrel
        by_cases hlt : k < n
        · obtain ⟨ad, z, rfl, hz, hcz⟩ := RdI.at' (hq.out.reads hra.out) hlt
          have hzk := hid (getD_of (by rw [hn'.out]; exact hlt) hz.out)
          have hzO : hasB ys z = true := hasB_mem.2 (hfa.out.1 z (List.mem_of_getElem? hzk.out))
          have hkn : (k : Int) < (n : Int) := by omega
          go_wp2_with fail
          refine (hasInt_asT hzO _ (hq.out.reads hrb.out) (by omega)).mono ?_
          rintro e w' ⟨rfl, rfl⟩
          clear hcz hzO
          go_wp2
          go_loopw [8] (fun j wr2 => ∃ q : Nat, q ≤ k ∧ j = .int .i64 q ∧ Hid (Qt w3 wr2)) (fun j _ => k - (intOf j).toNat)
          case atStart => exact ⟨0, Nat.zero_le _, rfl, hq⟩
          case round =>
            clear hq
            obtain ⟨q, hqk, rfl, hq⟩ := hrel
            by_cases hlt2 : q < k
            · obtain ⟨ad1, z1, e1, hz1, hcz1⟩ := RdI.at' (hq.out.reads hra.out) hlt
              injection e1 with e1
              subst e1
              obtain ⟨ad2, y, e2, hy, hcy⟩ := RdI.at' (hq.out.reads hra.out) (k := q) (by omega)
              injection e2 with e2
              subst e2
              have e3 : z1 = z := hz1.out.symm.trans hz.out
              subst e3
              have hyq := getD_of (by rw [hn'.out]; omega) hy.out
              have hbe := hid (hfa.out.2 q k y z1 hlt2 hyq hzk.out)
              have hqb := hid (hq.out.reads hrb.out)
              have hcall' : Hid (∀ n, Calls Try.prog 25 #[.slice A' ys.length c', .int .i64 y, .int .i64 z1] (wr.drewN n) fun e w' => e = .returned (.bool true) ∧ wr.drewN n = w') := hid (fun n => before_asT hbe.out (wr.drewN n) (Reads.drewN hqb.out n) (by omega) cb.1 cb.2)
              have i1 : (q : Int) < (k : Int) := by omega
              have i2 : (q : Int) < (n : Int) := by omega
              clear hyq hy hz1
              go_wp2
              go_quiet ((go_at_call 25; with_reducible exact same_call (hcall'.out _)))
              go_wp2
              go_roundw
              case rel => exact ⟨q + 1, by omega, by go_num, hid (hq.out.drewN _)⟩
              case measure => simp [intOf]; omega
            · have i1 : ¬ (q : Int) < (k : Int) := by omega
              go_wp2
              go_roundw
              case rel => exact ⟨k + 1, by omega, by go_num, hq⟩
              case measure => simp [intOf]; omega
        · have i1 : ¬ (k : Int) < (n : Int) := by omega
          go_wp2
          go_ret
          exact ⟨rfl, hB3.out.trans (hq.out.below _)⟩
  · go_enter Try.func11, Try.ntmps11
    go_wp2
    go_ret
    exact ⟨rfl, Below.refl _ _⟩
end Go.Proofs.Ytdhafappclcijaa
