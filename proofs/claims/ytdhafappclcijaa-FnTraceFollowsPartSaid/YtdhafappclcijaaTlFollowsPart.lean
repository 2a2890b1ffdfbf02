/-
  The walk of the law FnTraceFollowsPart. No condition.
-/
import Derived.Test.YtdhafappclcijaaTlM
import Derived.Deep.RegionHeld3
namespace Go.Proofs.Ytdhafappclcijaa
open Go.RowKit
set_option linter.unusedVariables false
set_option linter.unusedSimpArgs false

theorem step_appT {w : World} {ops : Array Oper} {o : Oper} {a : Act} {K : Act → World → Prop} {Q : Exit → Act → World → Prop} {E : Prop} (hgd : o.guard = none) (s x : Operand)
    (ho : o.op = .call { callee := .builtin .append, args := #[s, x], argTypes := #[25, 25] }) {B Br : Nat} {v : Value} {zs ys : List Int} {A : Option Addr} {m c : Nat} (hs : a.eval s = v) (hx : a.eval x = .slice A m c) (hown : OwI w B v zs) (hr : RdI w Br A m ys) (hB : B ≤ w.heap.size) (hn : zs.length + m < 1099511627776)
    (h : ∀ v' w', OwI w' B v' (zs ++ ys) → Below B w w' → K (a.put o.dst v') w') :
    if Region.wanted o (yielded ops a.tmps) = true then Oper.wp Try.prog o a w K Q else E := by
  have hw : Region.wanted o (yielded ops a.tmps) = true := by simp [Region.wanted, hgd]
  rw [if_pos hw]
  exact wp_appH s x ho hs hx hown hr hB hn fun v' w' h1 h2 _ => h v' w' h1 ((Below.refl B w).grown h2 hB (fun k hk => (hown.lt k hk).1))

set_option maxRecDepth 100000 in
set_option maxHeartbeats 8000000 in
theorem lawTraceFollowsPart {a b : Option Addr} {len cap len2 cap2 : Nat} {cs : List Int} (w : World) (h : RowIs .u8 w a len cap cs) :
    Calls Try.prog 12 #[.slice a len cap, .slice b len2 cap2] w fun e w' => e = .returned (.bool true) ∧ Below w.heap.size w w' := by
  have h' := hid h
  clear h
  by_cases hbig : len ≤ 1048576
  · by_cases hbig2 : len2 ≤ 1048576
    case neg =>
      go_enter Try.func12, Try.ntmps12
      go_wp2
      go_ret
      exact ⟨rfl, Below.refl _ _⟩
    go_enter Try.func12, Try.ntmps12
    go_wp2_with fail
    refine (DrawTraceFollows_any w h'.out).mono ?_
    rintro e w1 ⟨v, u, xs, ys, rfl, ho1, ho2, hl1, hl2, hb1⟩
    have la_1 := hid (Lv.ofI ho1)
    have lb_1 := hid (Lv.ofI ho2)
    have hB1 := hid hb1
    have hs1 := hb1.size
    clear ho1 ho2 hb1
    obtain ⟨A, c, rfl⟩ := la_1.out.rd
    obtain ⟨A', c', rfl⟩ := lb_1.out.rd
    have ca := OwI.capT la_1.out.1.1
    have cb := OwI.capT lb_1.out.1.1
    obtain ⟨K, hK⟩ : ∃ K, foR xs ys = K := ⟨_, rfl⟩
    obtain ⟨n, hn⟩ : ∃ n, xs.length = n := ⟨_, rfl⟩
    obtain ⟨m, hm⟩ : ∃ m, ys.length = m := ⟨_, rfl⟩
    rw [hn] at hl1 la_1 ca ⊢
    rw [hm] at hl2 lb_1 cb ⊢
    have hK' := hid hK
    have hn := hid hn
    have hm := hid hm
    clear hK
    go_wp2_with fail
    refine (TraceFollows_isI hK'.out _ la_1.out.at_ lb_1.out.at_ (by omega) (by omega) ca.1 cb.1 ca.2 cb.2).mono ?_
    rintro e w2 ⟨rfl, hb⟩
    have la_2 := hid (la_1.out.step hb)
    have lb_2 := hid (lb_1.out.step hb)
    have hB2 := hid (hB1.out.trans (hb.mono hs1))
    have hs2 := hb.size
    clear hb la_1 lb_1 hB1
    go_wp2_with fail
    refine (TraceFollows_isS hK'.out _ la_2.out.at_ lb_2.out.at_ (by omega) (by omega) ca.1 cb.1 ca.2 cb.2).mono ?_
    rintro e w3 ⟨rfl, hq⟩
    have la_3 := hid (la_2.out.quiet hq)
    have lb_3 := hid (lb_2.out.quiet hq)
    have hB3 := hid (hB2.out.trans (hq.below _))
    have hs3 : w2.heap.size ≤ w3.heap.size := Nat.le_of_eq hq.size.symm
    clear hq la_2 lb_2 hB2
    have hKK : (K != K) = false := by cases K <;> rfl
    have hKE : (K == K) = true := by cases K <;> rfl
    cases K with
    | false =>
      go_wp2
      go_ret
      exact ⟨rfl, hB3.out⟩
    | true =>
      by_cases h0 : n = 0
      · have h0' : ((n : Int) == 0) = true := by simp [h0]
        clear h0
        go_wp2
        go_ret
        exact ⟨rfl, hB3.out⟩
      · have h0' : ((n : Int) == 0) = false := by simp [h0]
        have hpos : 0 < n := by omega
        obtain ⟨g, rfl, -, -⟩ := la_3.out.1.1.baseT hpos
        have hmlt : len2 % n < n := Nat.mod_lt _ hpos
        have t1 : (len2 : Int).tmod (n : Int) = ((len2 % n : Nat) : Int) := by rw [Int.tmod_eq_emod_of_nonneg (by omega)]; simp
        generalize len2 % n = k at hmlt t1
        have hr2 := hid la_3.out.at_
        clear h0
        go_wp2_with fail
        have hkc : k ≤ c := by omega
        have hkn : k ≤ n := by omega
        have hk1 : (k : Int) + 1 ≤ (n : Int) := by omega
        have hk1' : k + 1 ≤ n := by omega
        have hk1c : k + 1 ≤ c := by omega
        have hw1 : IntKind.i64.wrap ((k : Int) + 1) = (k : Int) + 1 := IntWalk.i64_in _ (by omega)
        have hz1 : (0 : Int) ≤ (k : Int) + 1 := by omega
        have ht1 : ((k : Int) + 1).toNat = k + 1 := by omega
        obtain ⟨ad2, had2, hrr⟩ : ∃ ad2 : Addr, Hid ((if c = k + 1 then some (⟨g, 0, none⟩ : Addr) else some ⟨g, k + 1, none⟩) = some ad2) ∧ Hid (RdI w3 w3.heap.size (some ad2) (n - (k + 1)) (xs.drop (k + 1))) := by
          have h0 := RdI.cutRT (k := k + 1) (cap := c) hr2.out hk1' ca.1
          by_cases e : c = k + 1
          · rw [if_pos e] at h0
            exact ⟨_, hid (if_pos e), hid h0⟩
          · rw [if_neg e] at h0
            exact ⟨⟨g, k + 1, none⟩, hid (if_neg e), hid (by simpa [Addr.add] using h0)⟩
        have hx1 := hid (RdI.cutT hr2.out hkn)
        refine wp_region_held_drew (S := fun _ => True) (by kernel_rfl) trivial (fun hHeld => ?_)
        refine wpAnyH_take (i := 1) (oi := _) (v := ?v1) rfl (by kernel_rfl) (by kernel_rfl) (by kernel_rfl) (fun _ _ _ h => h) (Or.inl ⟨by kernel_rfl, ?h1⟩) (by assumption) ?r1
        case h1 => ((intro w hSw; (try dsimp only at hSw); go_simp) <;> (with_reducible rfl))
        try simp only [List.getElem_toArray, List.getElem_cons_zero, List.getElem_cons_succ, Act.put, List.setIfInBounds_toArray, List.set_cons_zero, List.set_cons_succ]
        refine wpAnyH_take (i := 2) (oi := _) (v := ?v2) rfl (by kernel_rfl) (by kernel_rfl) (by kernel_rfl) (fun _ _ _ h => h) (Or.inl ⟨by kernel_rfl, ?h2⟩) (by assumption) ?r2
        case h2 => ((intro w hSw; (try dsimp only at hSw); go_simp) <;> (with_reducible rfl))
        try simp only [List.getElem_toArray, List.getElem_cons_zero, List.getElem_cons_succ, Act.put, List.setIfInBounds_toArray, List.set_cons_zero, List.set_cons_succ]
        refine wpAnyH_take (i := 3) (oi := _) (v := ?v3) rfl (by kernel_rfl) (by kernel_rfl) (by kernel_rfl) (fun _ _ _ h => h) (Or.inl ⟨by kernel_rfl, ?h3⟩) (by assumption) ?r3
        case h3 => ((intro w hSw; (try dsimp only at hSw); go_simp) <;> (with_reducible rfl))
        try simp only [List.getElem_toArray, List.getElem_cons_zero, List.getElem_cons_succ, Act.put, List.setIfInBounds_toArray, List.set_cons_zero, List.set_cons_succ]
        refine wpAnyH_take (i := 5) (oi := _) (v := ?v5) rfl (by kernel_rfl) (by kernel_rfl) (by kernel_rfl) (fun _ _ _ h => h) (Or.inl ⟨by kernel_rfl, ?h5⟩) (by assumption) ?r5
        case h5 => ((intro w hSw; (try dsimp only at hSw); go_simp) <;> (with_reducible rfl))
        try simp only [List.getElem_toArray, List.getElem_cons_zero, List.getElem_cons_succ, Act.put, List.setIfInBounds_toArray, List.set_cons_zero, List.set_cons_succ]
        refine wpAnyH_take (i := 6) (oi := _) (v := ?v6) rfl (by kernel_rfl) (by kernel_rfl) (by kernel_rfl) (fun _ _ _ h => h) (Or.inl ⟨by kernel_rfl, ?h6⟩) (by assumption) ?r6
        case h6 => ((intro w hSw; (try dsimp only at hSw); go_simp) <;> (with_reducible rfl))
        try simp only [List.getElem_toArray, List.getElem_cons_zero, List.getElem_cons_succ, Act.put, List.setIfInBounds_toArray, List.set_cons_zero, List.set_cons_succ]
        refine wpAnyH_take (i := 7) (oi := _) (v := ?v7) rfl (by kernel_rfl) (by kernel_rfl) (by kernel_rfl) (fun _ _ _ h => h) (Or.inl ⟨by kernel_rfl, ?h7⟩) (by assumption) ?r7
        case h7 => ((intro w hSw; (try dsimp only at hSw); go_simp) <;> (with_reducible rfl))
        try simp only [List.getElem_toArray, List.getElem_cons_zero, List.getElem_cons_succ, Act.put, List.setIfInBounds_toArray, List.set_cons_zero, List.set_cons_succ]
        refine wpAnyH_take (i := 8) (oi := _) (v := .slice (some ad2) (n - (k + 1)) (c - (k + 1))) rfl (by kernel_rfl) (by kernel_rfl) (by kernel_rfl) (fun _ _ _ h => h) (Or.inl ⟨by kernel_rfl, ?h8⟩) (by assumption) ?r8
        case h8 => (intro w hSw; go_simp; exact had2.out)
        try simp only [List.getElem_toArray, List.getElem_cons_zero, List.getElem_cons_succ, Act.put, List.setIfInBounds_toArray, List.set_cons_zero, List.set_cons_succ]
        refine wpAnyH_take (i := 10) (oi := _) (v := ?v10) rfl (by kernel_rfl) (by kernel_rfl) (by kernel_rfl) (fun _ _ _ h => h) (Or.inl ⟨by kernel_rfl, ?h10⟩) (by assumption) ?r10
        case h10 => ((intro w hSw; (try dsimp only at hSw); go_simp) <;> (with_reducible rfl))
        try simp only [List.getElem_toArray, List.getElem_cons_zero, List.getElem_cons_succ, Act.put, List.setIfInBounds_toArray, List.set_cons_zero, List.set_cons_succ]
        refine wpAnyH_ready (rs := [0]) (by kernel_rfl) (by simp) ?_
        refine AllReadyH.cons (o := _) rfl (fun K hK => ?_) AllReadyH.nil
        go_simp
        refine hK.out _ _ trivial (fun hHeld => ?_)
        clear hK K
        try simp only [List.getElem_toArray, List.getElem_cons_zero, List.getElem_cons_succ, Act.put, List.setIfInBounds_toArray, List.set_cons_zero, List.set_cons_succ]
        refine wpAnyH_ready (rs := [4]) (by kernel_rfl) (by simp) ?_
        refine AllReadyH.cons (o := _) rfl (fun K hK => ?_) AllReadyH.nil
        refine step_appT rfl (.tmp 49) (.tmp 52) rfl (B := w3.heap.size) (zs := []) (ys := xs.take k) rfl rfl (OwI.empty_lit w3.drew (Nat.le_refl _)) (Reads.alloc (Reads.drew hx1.out) (Nat.le_refl _) _) (by simp) (by simp; omega) ?_
        intro v3 w4 hown3 hb3
        refine hK.out _ _ trivial (fun hHeld => ?_)
        clear hK K
        try simp only [List.getElem_toArray, List.getElem_cons_zero, List.getElem_cons_succ, Act.put, List.setIfInBounds_toArray, List.set_cons_zero, List.set_cons_succ]
        have hB4 := hid ((((Below.refl w3.heap.size w3).drew).alloc (Nat.le_refl _) (.cells #[] 3)).trans hb3)
        have hsz4 := hB4.out.size
        have hrr4 := hid (Reads.below hrr.out hB4.out)
        refine wpAnyH_ready (rs := [9]) (by kernel_rfl) (by simp) ?_
        refine AllReadyH.cons (o := _) rfl (fun K hK => ?_) AllReadyH.nil
        refine step_appT rfl (.tmp 53) (.tmp 57) rfl (B := w3.heap.size) (zs := [] ++ xs.take k) (ys := xs.drop (k + 1)) rfl rfl hown3 hrr4.out hsz4 (by simp; omega) ?_
        intro v4 w5 hown4 hb4
        refine hK.out _ _ trivial (fun hHeld => ?_)
        clear hK K
        try simp only [List.getElem_toArray, List.getElem_cons_zero, List.getElem_cons_succ, Act.put, List.setIfInBounds_toArray, List.set_cons_zero, List.set_cons_succ]
        have hB5 := hid (hB4.out.trans hb4)
        have hsz5 := hB5.out.size
        rw [List.nil_append] at hown4
        obtain ⟨L1, hL1⟩ : ∃ L1, xs.take k ++ xs.drop (k + 1) = L1 := ⟨_, rfl⟩
        have hL1n : L1.length < 1099511627776 := by rw [← hL1, List.length_append, List.length_take, List.length_drop, hn.out]; omega
        have hfo := hid (show foR L1 ys = true by rw [← hL1]; exact follows_part hK'.out k)
        rw [hL1] at hown4
        obtain ⟨A4, c4, rfl, hr4, hc4, hc42⟩ := hown4.formT
        have hr4' := hid hr4
        have hlb := hid (Reads.below lb_3.out.at_ hB5.out)
        clear hL1 hown4 hown3 hb3 hb4 hr4 hw1 ht1
        refine wpAnyH_ready (rs := [11]) (by kernel_rfl) (by simp) ?_
        refine AllReadyH.cons (o := _) rfl (fun K hK => ?_) AllReadyH.nil
        go_simp
        go_at_call 19
        refine (TraceFollows_isI hfo.out _ hr4'.out hlb.out hL1n (by omega) hc4 cb.1 hc42 cb.2).mono ?_
        rintro e w6 ⟨rfl, hb6⟩
        have hB6 := hid ((hB3.out.trans (hB5.out.mono (by omega))).trans (hb6.mono (by omega)))
        clear hb6
        go_wp2_with fail
        refine hK.out _ _ trivial (fun hHeld => ?_)
        clear hK K
        try simp only [List.getElem_toArray, List.getElem_cons_zero, List.getElem_cons_succ, Act.put, List.setIfInBounds_toArray, List.set_cons_zero, List.set_cons_succ]
        refine wpAnyH_take (i := 12) (oi := _) (v := ?v12) rfl (by kernel_rfl) (by kernel_rfl) (by kernel_rfl) (fun _ _ _ h => h) (Or.inl ⟨by kernel_rfl, ?h12⟩) (by assumption) ?r12
        case h12 => ((intro w hSw; (try dsimp only at hSw); go_simp) <;> (with_reducible rfl))
        try simp only [List.getElem_toArray, List.getElem_cons_zero, List.getElem_cons_succ, Act.put, List.setIfInBounds_toArray, List.set_cons_zero, List.set_cons_succ]
        refine wpAnyH_done (by kernel_rfl) ?_ _
        go_wp2
        go_ret
        exact ⟨rfl, hB6.out⟩
  · go_enter Try.func12, Try.ntmps12
    go_wp2
    go_ret
    exact ⟨rfl, Below.refl _ _⟩
end Go.Proofs.Ytdhafappclcijaa
