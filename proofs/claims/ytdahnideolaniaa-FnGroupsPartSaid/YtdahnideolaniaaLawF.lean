/-
  The walk of the law FnGroupsPart. No condition.
-/
import Derived.Test.YtdahnideolaniaaDrawA
import Derived.Test.YtdahnideolaniaaImplA
import Derived.Test.YtdahnideolaniaaExB
import Derived.Test.YtdahnideolaniaaPureB
import Derived.Test.YtdahnideolaniaaPureF
import Derived.Deep.RegionHeld3
namespace Go.Proofs.Ytdahnideolaniaa
open Go.RowKit

/-- one append of a slice that reads as ys, as one step of a region that draws its order -/
theorem step_appI {w : World} {ops : Array Oper} {o : Oper} {a : Act} {K : Act → World → Prop} {Q : Exit → Act → World → Prop} {E : Prop} (hgd : o.guard = none) (s x : Operand)
    (ho : o.op = .call { callee := .builtin .append, args := #[s, x], argTypes := #[23, 23] })
    (B Br m c : Nat) (ad : Addr) (v : Value) (xs ys : List Int) (hs : a.eval s = v) (hx : a.eval x = .slice (some ad) m c) (hown : OwI w B v xs) (hr : RdI w Br (some ad) m ys) (hB : B ≤ w.heap.size) (hn : xs.length + m < 1099511627776)
    (h : ∀ v' w', OwI w' B v' (xs ++ ys) → w.grownBy w' v.ownBlock → Below B w w' → K (a.put o.dst v') w') :
    if Region.wanted o (yielded ops a.tmps) = true then Oper.wp Try.prog o a w K Q else E := by
  obtain ⟨i0, hi, hz0, hz1, hz2⟩ := info_parts info_int
  have hw : Region.wanted o (yielded ops a.tmps) = true := by simp [Region.wanted, hgd]
  rw [if_pos hw]
  have hl := hr.len
  refine wp_append_own (P := Try.prog) w s x 23 ho B 3 i0 (.int .i64 0) 1 8 Try.underlying23 hi hz0 hz1 hz2 rfl (by decide) v xs.length (ints xs) hs hown ad m c (ints ys) hx (by simp [ints, hl]) ?_ (ints_one ys) ?_ ?_ hB ?_
  · intro j u hu
    have hj : j < m := by
      have := (List.getElem?_eq_some_iff.1 hu).1
      simpa [ints, hl] using this
    obtain ⟨ad', e, _, hc⟩ := hr.2 (by omega)
    injection e with e
    subst e
    exact hc j u hu
  · unfold maxLen; omega
  · omega
  · intro v' w' hown' hg _
    refine h v' w' ?_ hg ((Below.refl B w).grown hg hB (fun k hk => (hown.lt k hk).1))
    show w'.ownsRow B 3 1 v' (xs ++ ys).length (ints (xs ++ ys))
    rw [List.length_append, hl, ints, List.map_append]
    exact hown'

theorem RdI.cutL {w : World} {B n k : Nat} {A : Option Addr} {zs : List Int} (h : RdI w B A n zs) (hk : k ≤ n) : RdI w B A k (zs.take k) := by
  have hl := h.len
  refine ⟨by simp [ints]; omega, fun h0 => ?_⟩
  obtain ⟨ad, e, hb, hc⟩ := h.2 (by omega)
  refine ⟨ad, e, hb, fun j u hu => hc j u ?_⟩
  rw [ints, List.map_take, List.getElem?_take] at hu
  split at hu
  · exact hu
  · cases hu
theorem RdI.cutR {w : World} {B n k cap : Nat} {ad : Addr} {zs : List Int} (h : RdI w B (some ad) n zs) (hk : k ≤ n) (hc : n ≤ cap) : RdI w B (some (if cap = k then ad else ad.add k)) (n - k) (zs.drop k) := by
  have hl := h.len
  refine ⟨by simp [ints]; omega, fun h0 => ?_⟩
  obtain ⟨ad', e, hb, hcell⟩ := h.2 (by omega)
  injection e with e
  subst e
  rw [if_neg (by omega)]
  refine ⟨_, rfl, by rw [block_of_add]; exact hb, fun j u hu => ?_⟩
  rw [add_of_add]
  exact hcell _ u (by rw [← hu, ints, ints, List.map_drop, List.getElem?_drop])

set_option linter.unusedSimpArgs false in
set_option maxHeartbeats 1000000 in
theorem lawGroupsPart {a b : Option Addr} {len cap len2 cap2 : Nat} {cs : List Int} (w : World) (h : RowIs .u8 w a len cap cs) :
    Calls Try.prog 7 #[.slice a len cap, .slice b len2 cap2] w fun e w' => e = .returned (.bool true) ∧ Below w.heap.size w w' := by
  have h' := hid h
  clear h
  by_cases hbig : len ≤ 1048576
  · by_cases hbig2 : len2 ≤ 1048576
    case neg =>
      go_enter Try.func7, Try.ntmps7
      go_wp2
      go_ret
      exact ⟨rfl, Below.refl _ _⟩
    go_enter Try.func7, Try.ntmps7
    go_wp2_with fail
    refine (DrawGroupsValid_any w h'.out).mono ?_
    rintro e w1 ⟨v, zs, rfl, ho, hzl, hb1⟩
    have hB1 := hid hb1
    have hs1 := hb1.size
    have ho1 := hid ho
    clear hb1
    cases hv : gvalid zs with
    | false =>
      obtain ⟨A, c, rfl, hr1⟩ := ho.form
      have hr1' := hid hr1
      clear hr1 ho
      go_wp2_with fail
      refine (GroupsValid_impl _ hr1'.out (by omega)).mono ?_
      rw [hv]
      rintro e w2 ⟨rfl, rfl⟩
      go_wp2_with fail
      refine (GroupsValid_spec _ hr1'.out (by omega)).mono ?_
      rw [hv]
      rintro e w2 ⟨rfl, hq⟩
      go_wp2
      go_ret
      exact ⟨rfl, hB1.out.trans (hq.below _)⟩
    | true =>
      have hpos := gvalid_pos hv
      rcases ho.2 with ⟨rfl, h0⟩ | ⟨g, cp, cur, rfl, hbg, hgh, hncp, hcpm, hcs, htk⟩
      · omega
      · have hr1 : RdI w1 w1.heap.size (some ⟨g, 0, none⟩) zs.length zs := Reads.of_own (c := cp) ho
        have hr1' := hid hr1
        clear hr1 ho hgh hcs htk
        unfold maxLen at hcpm
        obtain ⟨n, hn⟩ : ∃ n, zs.length = n := ⟨_, rfl⟩
        rw [hn] at hzl hpos hncp
        have hr1 : Hid (RdI w1 w1.heap.size (some ⟨g, 0, none⟩) n zs) := hid (by rw [← hn]; exact hr1'.out)
        rw [hn]
        have hn' := hid hn
        clear hn hr1'
        go_wp2_with fail
        refine (GroupsValid_impl _ hr1.out (by omega)).mono ?_
        rw [hv]
        rintro e w2 ⟨rfl, rfl⟩
        go_wp2_with fail
        refine (GroupsValid_spec _ hr1.out (by omega)).mono ?_
        rw [hv]
        rintro e w2 ⟨rfl, hq⟩
        have hr2 := hid (hq.reads hr1.out)
        have hB2 := hid (hB1.out.trans (hq.below _))
        have hs2 := hB2.out.size
        have hs12 : w1.heap.size ≤ w2.heap.size := Nat.le_of_eq hq.size.symm
        clear hq hr1 hB1
        have hmlt : len2 % n < n := Nat.mod_lt _ hpos
        have t1 : (len2 : Int).tmod (n : Int) = ((len2 % n : Nat) : Int) := by rw [Int.tmod_eq_emod_of_nonneg (by omega)]; simp
        generalize len2 % n = k at hmlt t1
        go_wp2_with fail
        have hkc : k ≤ cp := by omega
        have hkn : k ≤ n := by omega
        have hk1 : (k : Int) + 1 ≤ (n : Int) := by omega
        have hk1' : k + 1 ≤ n := by omega
        have hk1c : k + 1 ≤ cp := by omega
        have hw1 : IntKind.i64.wrap ((k : Int) + 1) = (k : Int) + 1 := IntWalk.i64_in _ (by omega)
        have hz1 : (0 : Int) ≤ (k : Int) + 1 := by omega
        have ht1 : ((k : Int) + 1).toNat = k + 1 := by omega
        obtain ⟨ad2, had2, hrr⟩ : ∃ ad2 : Addr, Hid ((if cp = k + 1 then some (⟨g, 0, none⟩ : Addr) else some ⟨g, k + 1, none⟩) = some ad2) ∧ Hid (RdI w2 w1.heap.size (some ad2) (n - (k + 1)) (zs.drop (k + 1))) := by
          have h0 := RdI.cutR (k := k + 1) (cap := cp) hr2.out hk1' hncp
          by_cases e : cp = k + 1
          · rw [if_pos e] at h0
            exact ⟨_, hid (if_pos e), hid h0⟩
          · rw [if_neg e] at h0
            exact ⟨⟨g, k + 1, none⟩, hid (if_neg e), hid (by simpa [Addr.add] using h0)⟩
        have hrl := hid (RdI.cutL hr2.out hkn)
        refine wp_region_held_drew (S := fun _ => True) (by kernel_rfl) trivial (fun hHeld => ?_)
        refine wpAnyH_take (i := 1) (oi := _) (v := ?v1) rfl (by kernel_rfl) (by kernel_rfl) (by kernel_rfl) (fun _ _ _ h => h) (Or.inl ⟨by kernel_rfl, ?h1⟩) (by assumption) ?r1
        case h1 => ((intro w hSw; (try dsimp only at hSw); go_simp) <;> (with_reducible rfl))
        try simp only [List.getElem_toArray, List.getElem_cons_zero, List.getElem_cons_succ, Act.put, List.setIfInBounds_toArray, List.set_cons_zero, List.set_cons_succ]
        refine wpAnyH_take (i := 2) (oi := _) (v := ?v2) rfl (by kernel_rfl) (by kernel_rfl) (by kernel_rfl) (fun _ _ _ h => h) (Or.inl ⟨by kernel_rfl, ?h2⟩) (by assumption) ?r2
        case h2 => ((intro w hSw; (try dsimp only at hSw); go_simp) <;> (with_reducible rfl))
        try simp only [List.getElem_toArray, List.getElem_cons_zero, List.getElem_cons_succ, Act.put, List.setIfInBounds_toArray, List.set_cons_zero, List.set_cons_succ]
        refine wpAnyH_take (i := 3) (oi := _) (v := ?v3) rfl (by kernel_rfl) (by kernel_rfl) (by kernel_rfl) (fun _ _ _ h => h) (Or.inl ⟨by kernel_rfl, ?h3⟩) (by assumption) ?r3
        case h3 => ((intro w hSw; (try dsimp only at hSw); go_simp) <;> (with_reducible rfl))
        try simp only [List.getElem_toArray, List.getElem_cons_zero, List.getElem_cons_succ, Act.put, List.setIfInBounds_toArray, List.set_cons_zero, List.set_cons_succ]
        refine wpAnyH_take (i := 5) (oi := _) (v := ?v5) rfl (by kernel_rfl) (by kernel_rfl) (by kernel_rfl) (fun _ _ _ h => h) (Or.inl ⟨by kernel_rfl, ?h5⟩) (by assumption) ?r5
        case h5 => ((intro w hSw; (try dsimp only at hSw); go_simp) <;> (with_reducible rfl))
        try simp only [List.getElem_toArray, List.getElem_cons_zero, List.getElem_cons_succ, Act.put, List.setIfInBounds_toArray, List.set_cons_zero, List.set_cons_succ]
        refine wpAnyH_take (i := 6) (oi := _) (v := ?v6) rfl (by kernel_rfl) (by kernel_rfl) (by kernel_rfl) (fun _ _ _ h => h) (Or.inl ⟨by kernel_rfl, ?h6⟩) (by assumption) ?r6
        case h6 => ((intro w hSw; (try dsimp only at hSw); go_simp) <;> (with_reducible rfl))
        try simp only [List.getElem_toArray, List.getElem_cons_zero, List.getElem_cons_succ, Act.put, List.setIfInBounds_toArray, List.set_cons_zero, List.set_cons_succ]
        refine wpAnyH_take (i := 7) (oi := _) (v := ?v7) rfl (by kernel_rfl) (by kernel_rfl) (by kernel_rfl) (fun _ _ _ h => h) (Or.inl ⟨by kernel_rfl, ?h7⟩) (by assumption) ?r7
        case h7 => ((intro w hSw; (try dsimp only at hSw); go_simp) <;> (with_reducible rfl))
        try simp only [List.getElem_toArray, List.getElem_cons_zero, List.getElem_cons_succ, Act.put, List.setIfInBounds_toArray, List.set_cons_zero, List.set_cons_succ]
        refine wpAnyH_take (i := 8) (oi := _) (v := .slice (some ad2) (n - (k + 1)) (cp - (k + 1))) rfl (by kernel_rfl) (by kernel_rfl) (by kernel_rfl) (fun _ _ _ h => h) (Or.inl ⟨by kernel_rfl, ?h8⟩) (by assumption) ?r8
        case h8 => (intro w hSw; go_simp; exact had2.out)
        try simp only [List.getElem_toArray, List.getElem_cons_zero, List.getElem_cons_succ, Act.put, List.setIfInBounds_toArray, List.set_cons_zero, List.set_cons_succ]
        refine wpAnyH_ready (rs := [0]) (by kernel_rfl) (by simp) ?_
        refine AllReadyH.cons (o := _) rfl (fun K hK => ?_) AllReadyH.nil
        go_simp
        refine hK.out _ _ trivial (fun hHeld => ?_)
        clear hK K
        try simp only [List.getElem_toArray, List.getElem_cons_zero, List.getElem_cons_succ, Act.put, List.setIfInBounds_toArray, List.set_cons_zero, List.set_cons_succ]
        refine wpAnyH_ready (rs := [4]) (by kernel_rfl) (by simp) ?_
        refine AllReadyH.cons (o := _) rfl (fun K hK => ?_) AllReadyH.nil
        refine step_appI rfl (.tmp 40) (.tmp 43) rfl w2.heap.size w1.heap.size k cp ⟨g, 0, none⟩ (.slice (some ⟨w2.heap.size, 0, none⟩) 0 0) [] (zs.take k) rfl rfl (OwI.empty_lit w2.drew (Nat.le_refl _)) (Reads.alloc (Reads.drew hrl.out) hs12 _) (by simp) (by simp; omega) ?_
        intro v3 w3 hown3 hg3 hb3
        refine hK.out _ _ trivial (fun hHeld => ?_)
        clear hK K
        try simp only [List.getElem_toArray, List.getElem_cons_zero, List.getElem_cons_succ, Act.put, List.setIfInBounds_toArray, List.set_cons_zero, List.set_cons_succ]
        have hB3 := hid ((((Below.refl w2.heap.size w2).drew).alloc (Nat.le_refl _) (.cells #[] 3)).trans hb3)
        have hsz3 := hB3.out.size
        have hrr3 := hid (Reads.below (Reads.more hrr.out hs12) hB3.out)
        refine wpAnyH_ready (rs := [9]) (by kernel_rfl) (by simp) ?_
        refine AllReadyH.cons (o := _) rfl (fun K hK => ?_) AllReadyH.nil
        refine step_appI rfl (.tmp 44) (.tmp 48) rfl w2.heap.size w2.heap.size (n - (k + 1)) (cp - (k + 1)) ad2 v3 ([] ++ zs.take k) (zs.drop (k + 1)) rfl rfl hown3 hrr3.out hsz3 (by simp; omega) ?_
        intro v4 w4 hown4 hg4 hb4
        refine hK.out _ _ trivial (fun hHeld => ?_)
        clear hK K
        try simp only [List.getElem_toArray, List.getElem_cons_zero, List.getElem_cons_succ, Act.put, List.setIfInBounds_toArray, List.set_cons_zero, List.set_cons_succ]
        refine wpAnyH_take (i := 10) (oi := _) (v := ?v10) rfl (by kernel_rfl) (by kernel_rfl) (by kernel_rfl) (fun _ _ _ h => h) (Or.inl ⟨by kernel_rfl, ?h10⟩) (by assumption) ?r10
        case h10 => ((intro w hSw; (try dsimp only at hSw); go_simp) <;> (with_reducible rfl))
        try simp only [List.getElem_toArray, List.getElem_cons_zero, List.getElem_cons_succ, Act.put, List.setIfInBounds_toArray, List.set_cons_zero, List.set_cons_succ]
        refine wpAnyH_done (by kernel_rfl) ?_ _
        have hB4 := hid (hB3.out.trans hb4)
        have hsz4 := hB4.out.size
        rw [List.nil_append] at hown4
        obtain ⟨L1, hL1, hlv', hln⟩ : ∃ L1, zs.take k ++ zs.drop (k + 1) = L1 ∧ Hid (gvalid L1 = decide (1 < n)) ∧ L1.length < 1099511627776 := by
          refine ⟨_, rfl, ?_, ?_⟩
          · have hlv := less_valid hv (k := k) (by rw [hn'.out]; exact hmlt)
            rw [hn'.out] at hlv
            exact hid hlv
          · rw [List.length_append, List.length_take, List.length_drop, hn'.out]; omega
        rw [hL1] at hown4
        clear hL1
        obtain ⟨A4, c4, rfl, _⟩ := hown4.form
        clear hg3 hb3 hown3 hg4 hb4 hw1 ht1
        have hr4 := hid (Reads.below (Reads.more hr2.out hs12) hB4.out)
        have hr4m := hid (Reads.more hr4.out hsz4)
        have hnek : ¬ cp = k := by omega
        have hk1z : (k : Int) + 1 ≤ (cp : Int) := by omega
        have hz1 : (0 : Int) ≤ (k : Int) + 1 := by omega
        have hw1 : IntKind.i64.wrap ((k : Int) + 1) = (k : Int) + 1 := IntWalk.i64_in _ (by omega)
        have ht1 : ((k : Int) + 1).toNat = k + 1 := by omega
        have hx1 := hid (RdI.cutL hr4m.out hk1')
        have hx2 : Hid (RdI w4 w4.heap.size (some ⟨g, k, none⟩) (n - k) (zs.drop k)) := hid (by
          have h0 := RdI.cutR (k := k) (cap := cp) hr4m.out hkn hncp
          have e : (⟨g, 0, none⟩ : Addr).add k = ⟨g, k, none⟩ := by
            unfold Addr.add
            split
            · rename_i hk0; rw [hk0]
            · simp
          rw [if_neg hnek, e] at h0
          exact h0)
        have hless := hid hown4
        clear hown4
        go_wp2_with fail
        refine wp_region_held_drew (S := fun _ => True) (by kernel_rfl) trivial (fun hHeld => ?_)
        refine wpAnyH_take (i := 1) (oi := _) (v := ?vb1) rfl (by kernel_rfl) (by kernel_rfl) (by kernel_rfl) (fun _ _ _ h => h) (Or.inl ⟨by kernel_rfl, ?hb1⟩) (by assumption) ?rb1
        case hb1 => ((intro w hSw; (try dsimp only at hSw); go_simp) <;> (with_reducible rfl))
        try simp only [List.getElem_toArray, List.getElem_cons_zero, List.getElem_cons_succ, Act.put, List.setIfInBounds_toArray, List.set_cons_zero, List.set_cons_succ]
        refine wpAnyH_take (i := 2) (oi := _) (v := ?vb2) rfl (by kernel_rfl) (by kernel_rfl) (by kernel_rfl) (fun _ _ _ h => h) (Or.inl ⟨by kernel_rfl, ?hb2⟩) (by assumption) ?rb2
        case hb2 => ((intro w hSw; (try dsimp only at hSw); go_simp) <;> (with_reducible rfl))
        try simp only [List.getElem_toArray, List.getElem_cons_zero, List.getElem_cons_succ, Act.put, List.setIfInBounds_toArray, List.set_cons_zero, List.set_cons_succ]
        refine wpAnyH_take (i := 3) (oi := _) (v := ?vb3) rfl (by kernel_rfl) (by kernel_rfl) (by kernel_rfl) (fun _ _ _ h => h) (Or.inl ⟨by kernel_rfl, ?hb3⟩) (by assumption) ?rb3
        case hb3 => ((intro w hSw; (try dsimp only at hSw); go_simp) <;> (with_reducible rfl))
        try simp only [List.getElem_toArray, List.getElem_cons_zero, List.getElem_cons_succ, Act.put, List.setIfInBounds_toArray, List.set_cons_zero, List.set_cons_succ]
        refine wpAnyH_take (i := 4) (oi := _) (v := ?vb4) rfl (by kernel_rfl) (by kernel_rfl) (by kernel_rfl) (fun _ _ _ h => h) (Or.inl ⟨by kernel_rfl, ?hb4⟩) (by assumption) ?rb4
        case hb4 => ((intro w hSw; (try dsimp only at hSw); go_simp) <;> (with_reducible rfl))
        try simp only [List.getElem_toArray, List.getElem_cons_zero, List.getElem_cons_succ, Act.put, List.setIfInBounds_toArray, List.set_cons_zero, List.set_cons_succ]
        refine wpAnyH_take (i := 6) (oi := _) (v := ?vb6) rfl (by kernel_rfl) (by kernel_rfl) (by kernel_rfl) (fun _ _ _ h => h) (Or.inl ⟨by kernel_rfl, ?hb6⟩) (by assumption) ?rb6
        case hb6 => ((intro w hSw; (try dsimp only at hSw); go_simp) <;> (with_reducible rfl))
        try simp only [List.getElem_toArray, List.getElem_cons_zero, List.getElem_cons_succ, Act.put, List.setIfInBounds_toArray, List.set_cons_zero, List.set_cons_succ]
        refine wpAnyH_take (i := 7) (oi := _) (v := ?vb7) rfl (by kernel_rfl) (by kernel_rfl) (by kernel_rfl) (fun _ _ _ h => h) (Or.inl ⟨by kernel_rfl, ?hb7⟩) (by assumption) ?rb7
        case hb7 => ((intro w hSw; (try dsimp only at hSw); go_simp) <;> (with_reducible rfl))
        try simp only [List.getElem_toArray, List.getElem_cons_zero, List.getElem_cons_succ, Act.put, List.setIfInBounds_toArray, List.set_cons_zero, List.set_cons_succ]
        refine wpAnyH_take (i := 8) (oi := _) (v := ?vb8) rfl (by kernel_rfl) (by kernel_rfl) (by kernel_rfl) (fun _ _ _ h => h) (Or.inl ⟨by kernel_rfl, ?hb8⟩) (by assumption) ?rb8
        case hb8 => ((intro w hSw; (try dsimp only at hSw); go_simp) <;> (with_reducible rfl))
        try simp only [List.getElem_toArray, List.getElem_cons_zero, List.getElem_cons_succ, Act.put, List.setIfInBounds_toArray, List.set_cons_zero, List.set_cons_succ]
        refine wpAnyH_ready (rs := [0]) (by kernel_rfl) (by simp) ?_
        refine AllReadyH.cons (o := _) rfl (fun K hK => ?_) AllReadyH.nil
        go_simp
        refine hK.out _ _ trivial (fun hHeld => ?_)
        clear hK K
        try simp only [List.getElem_toArray, List.getElem_cons_zero, List.getElem_cons_succ, Act.put, List.setIfInBounds_toArray, List.set_cons_zero, List.set_cons_succ]
        refine wpAnyH_ready (rs := [5]) (by kernel_rfl) (by simp) ?_
        refine AllReadyH.cons (o := _) rfl (fun K hK => ?_) AllReadyH.nil
        refine step_appI rfl (.tmp 50) (.tmp 54) rfl w4.heap.size w4.heap.size (k + 1) cp ⟨g, 0, none⟩ (.slice (some ⟨w4.heap.size, 0, none⟩) 0 0) [] (zs.take (k + 1)) rfl rfl (OwI.empty_lit w4.drew (Nat.le_refl _)) (Reads.alloc (Reads.drew hx1.out) (Nat.le_refl _) _) (by simp) (by simp; omega) ?_
        intro v5 w5 hown5 hg5 hb5
        refine hK.out _ _ trivial (fun hHeld => ?_)
        clear hK K
        try simp only [List.getElem_toArray, List.getElem_cons_zero, List.getElem_cons_succ, Act.put, List.setIfInBounds_toArray, List.set_cons_zero, List.set_cons_succ]
        have hB5 := hid ((((Below.refl w4.heap.size w4).drew).alloc (Nat.le_refl _) (.cells #[] 3)).trans hb5)
        have hsz5 := hB5.out.size
        have hx3 := hid (Reads.below hx2.out hB5.out)
        refine wpAnyH_ready (rs := [9]) (by kernel_rfl) (by simp) ?_
        refine AllReadyH.cons (o := _) rfl (fun K hK => ?_) AllReadyH.nil
        refine step_appI rfl (.tmp 55) (.tmp 58) rfl w4.heap.size w4.heap.size (n - k) (cp - k) ⟨g, k, none⟩ v5 ([] ++ zs.take (k + 1)) (zs.drop k) rfl rfl hown5 hx3.out hsz5 (by simp; omega) ?_
        intro v6 w6 hown6 hg6 hb6
        refine hK.out _ _ trivial (fun hHeld => ?_)
        clear hK K
        try simp only [List.getElem_toArray, List.getElem_cons_zero, List.getElem_cons_succ, Act.put, List.setIfInBounds_toArray, List.set_cons_zero, List.set_cons_succ]
        refine wpAnyH_take (i := 10) (oi := _) (v := ?vb10) rfl (by kernel_rfl) (by kernel_rfl) (by kernel_rfl) (fun _ _ _ h => h) (Or.inl ⟨by kernel_rfl, ?hb10⟩) (by assumption) ?rb10
        case hb10 => ((intro w hSw; (try dsimp only at hSw); go_simp) <;> (with_reducible rfl))
        try simp only [List.getElem_toArray, List.getElem_cons_zero, List.getElem_cons_succ, Act.put, List.setIfInBounds_toArray, List.set_cons_zero, List.set_cons_succ]
        refine wpAnyH_done (by kernel_rfl) ?_ _
        have hB6 := hid (hB5.out.trans hb6)
        rw [List.nil_append] at hown6
        obtain ⟨L2, hL2, htv', hln2⟩ : ∃ L2, zs.take (k + 1) ++ zs.drop k = L2 ∧ Hid (gvalid L2 = false) ∧ L2.length < 1099511627776 := by
          refine ⟨_, rfl, hid (twice_invalid (by rw [hn'.out]; exact hmlt)), ?_⟩
          rw [List.length_append, List.length_take, List.length_drop, hn'.out]; omega
        rw [hL2] at hown6
        clear hL2
        obtain ⟨A6, c6, rfl, hr6⟩ := hown6.form
        have hless6 := hid (own_of_block (w' := w6) hless.out (fun q hq => hB6.out.block q (hless.out.lt q hq).2))
        have hl6 := hid (Lv.ofI hless6.out)
        have hr6' := hid hr6
        have hfin := hid (hB2.out.trans ((hB4.out.mono hs2).trans (hB6.out.mono (by omega))))
        clear hg5 hb5 hown5 hg6 hb6 hown6 hr6 hw1 ht1 t1
        go_wp2_with fail
        refine (GroupsValid_impl _ hl6.out.at_ hln).mono ?_
        rw [hlv'.out]
        rintro e w7 ⟨rfl, rfl⟩
        by_cases h1n : 1 < n
        · have hd1 : decide (1 < n) = true := by simpa using h1n
          have hd2 : decide ((1 : Int) < (n : Int)) = true := by rw [decide_eq_true_eq]; omega
          rw [hd1]
          go_wp2_with fail
          refine (GroupsValid_impl _ hr6'.out hln2).mono ?_
          rw [htv'.out]
          rintro e w7 ⟨rfl, rfl⟩
          go_wp2
          go_ret
          exact ⟨rfl, hfin.out⟩
        · have hd1 : decide (1 < n) = false := by simpa using h1n
          have hd2 : decide ((1 : Int) < (n : Int)) = false := by rw [decide_eq_false_iff_not]; omega
          rw [hd1]
          go_wp2_with fail
          refine (GroupsValid_impl _ hr6'.out hln2).mono ?_
          rw [htv'.out]
          rintro e w7 ⟨rfl, rfl⟩
          go_wp2
          go_ret
          exact ⟨rfl, hfin.out⟩
  · go_enter Try.func7, Try.ntmps7
    go_wp2
    go_ret
    exact ⟨rfl, Below.refl _ _⟩
end Go.Proofs.Ytdahnideolaniaa
