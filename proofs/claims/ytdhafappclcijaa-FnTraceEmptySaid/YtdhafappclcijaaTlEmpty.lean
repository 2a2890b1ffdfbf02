/-
  The walk of the law FnTraceEmpty. No condition.
-/
import Derived.Test.YtdhafappclcijaaTlM
namespace Go.Proofs.Ytdhafappclcijaa
open Go.RowKit
set_option linter.unusedVariables false
set_option linter.unusedSimpArgs false

theorem newCellT (w : World) (T : TypeId) (cs : Array Value) (k : Nat) (v : Value) (h : cs[k]? = some v) : (w.alloc (.cells cs T)).cell? ⟨w.heap.size, k, none⟩ = some v := by
  rw [cell_of_row _ w.heap.size k cs T (0, 0) (heap_alloc_new w _)]; exact h

theorem rdT_one {n c : Nat} {A : Option Addr} {zs : List Int} (w : World) (hr : RdI w w.heap.size A n zs) (hl : zs.length = n) (h1 : n ≤ c) (h2 : c ≤ 9223372036854775807) :
    RdT (w.alloc (.cells #[.slice A n c] 25)) (w.alloc (.cells #[.slice A n c] 25)).heap.size (some ⟨w.heap.size, 0, none⟩) 1 [zs] := by
  refine ⟨rfl, fun _ => ⟨_, rfl, by simp, fun i us hz => ?_⟩⟩
  match i, hz with
  | 0, hz =>
    simp at hz
    subst hz
    rw [hl]
    refine ⟨A, c, newCellT w _ #[.slice A n c] 0 _ rfl, (Reads.more (Reads.alloc hr (Nat.le_refl _) _) (by simp)), h1, h2⟩

theorem rdT_two (w : World) :
    RdT (((w.alloc (.cells #[] 3)).alloc (.cells #[] 3)).alloc (.cells #[.slice (some ⟨w.heap.size, 0, none⟩) 0 0, .slice (some ⟨w.heap.size + 1, 0, none⟩) 0 0] 25))
      (((w.alloc (.cells #[] 3)).alloc (.cells #[] 3)).alloc (.cells #[.slice (some ⟨w.heap.size, 0, none⟩) 0 0, .slice (some ⟨w.heap.size + 1, 0, none⟩) 0 0] 25)).heap.size (some ⟨w.heap.size + 1 + 1, 0, none⟩) 2 [[], []] := by
  obtain ⟨W, hW⟩ : ∃ W, ((w.alloc (.cells #[] 3)).alloc (.cells #[] 3)) = W := ⟨_, rfl⟩
  have hs : W.heap.size = w.heap.size + 1 + 1 := by rw [← hW]; simp
  rw [hW, ← hs]
  refine ⟨rfl, fun _ => ⟨_, rfl, by simp, fun i us hz => ?_⟩⟩
  match i, hz with
  | 0, hz =>
    simp at hz
    subst hz
    exact ⟨_, 0, newCellT W _ _ 0 _ rfl, Reads.none_, Nat.le_refl _, by omega⟩
  | 1, hz =>
    simp at hz
    subst hz
    exact ⟨_, 0, newCellT W _ _ 1 _ rfl, Reads.none_, Nat.le_refl _, by omega⟩

set_option maxRecDepth 100000 in
set_option maxHeartbeats 8000000 in
theorem lawTraceEmpty {a : Option Addr} {len cap : Nat} {cs : List Int} (w : World) (h : RowIs .u8 w a len cap cs) :
    Calls Try.prog 14 #[.slice a len cap] w fun e w' => e = .returned (.bool true) ∧ Below w.heap.size w w' := by
  have h' := hid h
  clear h
  by_cases hbig : len ≤ 1048576
  · go_enter Try.func14, Try.ntmps14
    go_wp2_with fail
    refine (DrawTraceFollows_any w h'.out).mono ?_
    rintro e w1 ⟨v, u, xs, ys, rfl, ho1, ho2, hl1, hl2, hb1⟩
    have la_1 := hid (Lv.ofI ho1)
    have lb_1 := hid (Lv.ofI ho2)
    have hB1 := hid hb1
    have hs1 := hb1.size
    clear ho1 ho2 hb1
    obtain ⟨A, c, rfl⟩ := la_1.out.rd
    obtain ⟨A', c', rfl⟩ := lb_1.out.rd
    have ca := OwI.capT la_1.out.1.1
    have cb := OwI.capT lb_1.out.1.1
    obtain ⟨K, hK⟩ : ∃ K, foR xs ys = K := ⟨_, rfl⟩
    obtain ⟨n, hn⟩ : ∃ n, xs.length = n := ⟨_, rfl⟩
    obtain ⟨m, hm⟩ : ∃ m, ys.length = m := ⟨_, rfl⟩
    rw [hn] at hl1 la_1 ca ⊢
    rw [hm] at hl2 lb_1 cb ⊢
    have hK' := hid hK
    have hn := hid hn
    have hm := hid hm
    clear hK
    go_wp2_with fail
    refine (TraceFollows_isI hK'.out _ la_1.out.at_ lb_1.out.at_ (by omega) (by omega) ca.1 cb.1 ca.2 cb.2).mono ?_
    rintro e w2 ⟨rfl, hb⟩
    have la_2 := hid (la_1.out.step hb)
    have lb_2 := hid (lb_1.out.step hb)
    have hB2 := hid (hB1.out.trans (hb.mono hs1))
    have hs2 := hb.size
    clear hb la_1 lb_1 hB1
    go_wp2_with fail
    refine (TraceFollows_isS hK'.out _ la_2.out.at_ lb_2.out.at_ (by omega) (by omega) ca.1 cb.1 ca.2 cb.2).mono ?_
    rintro e w3 ⟨rfl, hq⟩
    have la_3 := hid (la_2.out.quiet hq)
    have lb_3 := hid (lb_2.out.quiet hq)
    have hB3 := hid (hB2.out.trans (hq.below _))
    have hs3 : w2.heap.size ≤ w3.heap.size := Nat.le_of_eq hq.size.symm
    clear hq la_2 lb_2 hB2
    have hKK : (K != K) = false := by cases K <;> rfl
    have hKE : (K == K) = true := by cases K <;> rfl
    obtain ⟨W4, hW4⟩ : ∃ W, (((w3.alloc (.cells #[] 3)).alloc (.cells #[] 3)).alloc (.cells #[.slice (some ⟨w3.heap.size, 0, none⟩) 0 0, .slice (some ⟨w3.heap.size + 1, 0, none⟩) 0 0] 25)) = W := ⟨_, rfl⟩
    have hr4 := hid (show RdT W4 W4.heap.size (some ⟨w3.heap.size + 1 + 1, 0, none⟩) 2 [[], []] by rw [← hW4]; exact rdT_two w3)
    have b4 : Below w3.heap.size w3 W4 := by rw [← hW4]; exact (((Below.refl _ w3).alloc (Nat.le_refl _) _).alloc (by simp) _).alloc (by simp; omega) _
    have la_4 := hid (la_3.out.step b4)
    have lb_4 := hid (lb_3.out.step b4)
    have hB4 := hid (hB3.out.trans (b4.mono (by omega)))
    have hs4 := b4.size
    have hW4 := hid hW4
    clear b4 la_3 lb_3 hB3
    go_wp2_with fail
    try rw [hW4.out]
    refine (TraceOrder_isI (K := true) (O := []) (m := 0) two_empty.1 two_empty.2 rfl W4 hr4.out (by omega) (fun t ht => by simp at ht; subst ht; simp)).mono ?_
    rintro e w5 ⟨A5, c5, rfl, ho, hb, -, -⟩
    have la_5 := hid (la_4.out.step hb)
    have lb_5 := hid (lb_4.out.step hb)
    have hB5 := hid (hB4.out.trans (hb.mono (by omega)))
    have hs5 := hb.size
    clear ho hb la_4 lb_4 hB4 hr4 hW4
    obtain ⟨T, hT⟩ : ∃ T, trB ys = T := ⟨_, rfl⟩
    have hT1 := hid (show okT [ys] = T by rw [one_iff, hT])
    have hT2 := hid (show foR [] ys = T by rw [nil_follows, hT])
    obtain ⟨O, hO⟩ : ∃ O, toR [ys] = O := ⟨_, rfl⟩
    obtain ⟨q, hq⟩ : ∃ q, O.length = q := ⟨_, rfl⟩
    have hq12 : q ≤ 12 := by rw [← hq, ← hO]; exact toR_len
    have hOT := hid (show T = true → O = ys from fun hh => by
      rw [hh] at hT
      rw [← hO, toR, if_pos (one_same hT).1]; exact (one_same hT).2)
    have hO := hid hO
    have hq := hid hq
    have hT := hid hT
    obtain ⟨W6, hW6⟩ : ∃ W, (w5.alloc (.cells #[.slice A' m c'] 25)) = W := ⟨_, rfl⟩
    have hr6 := hid (show RdT W6 W6.heap.size (some ⟨w5.heap.size, 0, none⟩) 1 [ys] by rw [← hW6]; exact rdT_one w5 lb_5.out.at_ hm.out cb.1 cb.2)
    have b6 : Below w5.heap.size w5 W6 := by rw [← hW6]; exact (Below.refl _ w5).alloc (Nat.le_refl _) _
    have la_6 := hid (la_5.out.step b6)
    have lb_6 := hid (lb_5.out.step b6)
    have hB6 := hid (hB5.out.trans (b6.mono (by omega)))
    have hs6 := b6.size
    have hW6 := hid hW6
    clear b6 la_5 lb_5 hB5
    go_wp2_with fail
    try rw [hW6.out]
    refine (TraceOrder_isI hT1.out hO.out hq.out W6 hr6.out (by omega) (fun t ht => by simp at ht; subst ht; rw [hm.out]; omega)).mono ?_
    rintro e w7 ⟨A7, c7, rfl, ho, hb, hqc, -⟩
    have lo_7 := hid (Lv.ofI ho)
    have la_7 := hid (la_6.out.step hb)
    have lb_7 := hid (lb_6.out.step hb)
    have hB7 := hid (hB6.out.trans (hb.mono (by omega)))
    have hs7 := hb.size
    clear ho hb la_6 lb_6 hB6 hr6 hW6
    have b8 := (Below.refl w7.heap.size w7).alloc (Nat.le_refl _) (.cells #[] 3)
    have lo_8 := hid (lo_7.out.step b8)
    have lb_8 := hid (lb_7.out.step b8)
    have hB8 := hid (hB7.out.trans (b8.mono (by omega)))
    have hs8 := b8.size
    have he8 := hid (show RdI (w7.alloc (.cells #[] 3)) w7.heap.size (some ⟨w7.heap.size, 0, none⟩) 0 [] from Reads.none_)
    clear b8 lo_7 lb_7 hB7 la_7
    go_wp2_with fail
    refine (TraceFollows_isI hT2.out _ he8.out lb_8.out.at_ (by omega) (by omega) (by omega) cb.1 (by omega) cb.2).mono ?_
    rintro e w9 ⟨rfl, hb⟩
    have lo_9 := hid (lo_8.out.step hb)
    have lb_9 := hid (lb_8.out.step hb)
    have hB9 := hid (hB8.out.trans (hb.mono (by simp at hs8 ⊢; omega)))
    clear hb lo_8 lb_8 hB8 he8
    cases T with
    | false =>
      go_wp2
      go_ret
      exact ⟨rfl, hB9.out⟩
    | true =>
      have e1 := hOT.out rfl
      have e2 : q = m := by rw [← hq.out, e1, hm.out]
      subst e2
      rw [e1] at lo_9
      go_wp2_with fail
      refine (sameInts_self w9 lo_9.out.at_ lb_9.out.at_ (by omega)).mono ?_
      rintro e w10 ⟨rfl, hq⟩
      go_wp2
      go_ret
      exact ⟨rfl, hB9.out.trans (hq.below _)⟩
  · go_enter Try.func14, Try.ntmps14
    go_wp2
    go_ret
    exact ⟨rfl, Below.refl _ _⟩
end Go.Proofs.Ytdhafappclcijaa
