/-
  The walk of the law FnLinkedGrow. No condition.
-/
import Derived.Test.YtdahnideolaniaaLawB
import Derived.Laws.AppendOwnNone
namespace Go.Proofs.Ytdahnideolaniaa
open Go.RowKit

/-- 'append(v, u...)' of owned slices of owned slices -/
theorem wpList_appSS {w : World} {ops : Array Oper} {rest : List Oper} {o : Oper} {a : Act} {Q : Exit → Act → World → Prop} (hgd : o.guard = none) (s x : Operand)
    (ho : o.op = .call { callee := .builtin .append, args := #[s, x], argTypes := #[31, 31] })
    (B : Nat) (v u : Value) (xss yss : List (List Int)) (hs : a.eval s = v) (hx : a.eval x = u) (hown : OwLL w B v xss) (hu : OwLL w B u yss) (hB : B ≤ w.heap.size) (hn : xss.length + yss.length < 1099511627776)
    (h : ∀ v' w', OwLL w' B v' (xss ++ yss) → w.grownBy w' v.ownBlock → Below B w w' → wpList Try.prog ops Q rest (a.put o.dst v') w') :
    wpList Try.prog ops Q (o :: rest) a w := by
  obtain ⟨i0, hi, hz0, hz1, hz2⟩ := info_parts info_ints
  obtain ⟨vals, hl, hv, hin⟩ := hown
  obtain ⟨vals2, hl2, hv2, hin2⟩ := hu
  rcases hv2.2 with ⟨rfl, h0⟩ | ⟨g, cap, cur, rfl, hrest⟩
  · have hz : yss = [] := List.eq_nil_of_length_eq_zero (by omega)
    subst hz
    refine wpList_append_own_none (P := Try.prog) hgd s x 31 ho B 23 i0 1 Try.underlying31 hi v vals.length vals hs hv hx ?_
    exact h v w ⟨vals, by simp [hl], hv, by simpa using hin⟩ (World.grownBy.refl _ _) (Below.refl _ _)
  · refine wpList_append_own (P := Try.prog) w hgd s x 31 ho B 23 i0 (.slice none 0 0) 1 24 Try.underlying31 hi hz0 hz1 hz2 rfl (by decide) v vals.length vals hs hv ⟨g, 0, none⟩ vals2.length cap vals2 hx (by simp) (hv2.cells (g := g) rfl) ?_ ?_ ?_ hB ?_
    · intro y hy
      obtain ⟨i, hi2, rfl⟩ := List.getElem_of_mem hy
      have := hin2 i (by omega)
      have e : vals2.getD i undef = vals2[i] := by simp [hi2]
      rw [e] at this
      rcases this.2 with ⟨e2, _⟩ | ⟨g2, cap2, cur2, e2, _⟩ <;> rw [e2] <;> rfl
    · unfold maxLen; omega
    · omega
    · intro v' w' hown' hg _
      have far : ∀ (y : Value) (us : List Int), OwI w B y us → OwI w' B y us := fun y us hy =>
        own_of_block hy fun k hk => hg.block k (hy.lt k hk).2 (fun e => own_ne hv hy e.symm hk)
      refine h v' w' ⟨vals ++ vals2, by simp [hl, hl2], by rw [OwV, List.length_append]; exact hown', fun i hi' => ?_⟩ hg ((Below.refl B w).grown hg hB (fun k hk => (hv.lt k hk).1))
      have hi2 : i < xss.length + yss.length := by simpa using hi'
      by_cases e : i < xss.length
      · have e1 : (vals ++ vals2).getD i undef = vals.getD i undef := by
          have : i < vals.length := by omega
          simp [List.getElem?_append, this]
        have e2 : (xss ++ yss).getD i [] = xss.getD i [] := by simp [List.getElem?_append, e]
        rw [e1, e2]
        exact far _ _ (hin i e)
      · have e1 : (vals ++ vals2).getD i undef = vals2.getD (i - xss.length) undef := by
          simp [List.getElem?_append, hl, e]
        have e2 : (xss ++ yss).getD i [] = yss.getD (i - xss.length) [] := by simp [List.getElem?_append, e]
        rw [e1, e2]
        exact far _ _ (hin2 _ (by omega))

set_option maxHeartbeats 2000000 in
theorem lawLinkedGrow {a b : Option Addr} {len cap len2 cap2 : Nat} {cs : List Int} (w : World) (h : RowIs .u8 w a len cap cs) :
    Calls Try.prog 8 #[.slice a len cap, .slice b len2 cap2] w fun e w' => e = .returned (.bool true) ∧ Below w.heap.size w w' := by
  have h' := hid h
  clear h
  by_cases hbig : len ≤ 1048576
  · by_cases hbig2 : len2 ≤ 1048576
    case neg =>
      go_enter Try.func8, Try.ntmps8
      go_wp2
      go_ret
      exact ⟨rfl, Below.refl _ _⟩
    go_enter Try.func8, Try.ntmps8
    go_wp2_with fail
    refine (DrawGroupsLinked_any w h'.out).mono ?_
    rintro e w1 ⟨v, zss, x, rfl, ho, hzl, hsh, hb1⟩
    obtain ⟨A, c, rfl, hr1⟩ := ho.form
    have lo_1 := hid ho
    have hr1' := hid hr1
    have hB1 := hid hb1
    have hs1 := hb1.size
    have hsh' := hid hsh.short
    have hsh6 := hid hsh
    clear ho hr1 hb1 hsh
    obtain ⟨R, hR⟩ : ∃ R, linkedR zss x = R := ⟨_, rfl⟩
    have hRl : R.length ≤ 5 := by rw [← hR]; exact linkedR_len zss x
    have hR' := hid hR
    clear hR
    go_wp2_with fail
    refine (GroupsLinked_impl x _ hr1'.out (by omega) hsh'.out).mono ?_
    rw [hR'.out]
    rintro e w2 ⟨v, rfl, ho, hb⟩
    have lg_2 := hid (Lv.ofI ho)
    have hr2 := hid (hr1'.out.step hb)
    have lo_2 := hid (lo_1.out.below hb)
    have hB2 := hid (hB1.out.trans (hb.mono hs1))
    have hs2 := hB2.out.size
    clear ho hb hB1 hr1'
    obtain ⟨A2, c2, rfl⟩ := lg_2.out.rd
    go_wp2_with fail
    refine (GroupsLinked_spec x _ hr2.out (by omega) hsh'.out).mono ?_
    rw [hR'.out]
    rintro e w3 ⟨v, rfl, ho, hb⟩
    have lp_3 := hid (Lv.ofI ho)
    have lg_3 := hid (lg_2.out.step hb)
    have hr3 := hid (hr2.out.step hb)
    have lo_3 := hid (lo_2.out.below hb)
    have hB3 := hid (hB2.out.trans (hb.mono hs2))
    have hs3 := hB3.out.size
    clear ho hb hB2 hr2 lg_2
    obtain ⟨A3, c3, rfl⟩ := lp_3.out.rd
    go_wp2_with fail
    refine (sameInts_any _ lg_3.out.at_ lp_3.out.at_ (by omega) (by omega)).mono ?_
    rw [sameB_self]
    rintro e w4 ⟨rfl, hq⟩
    have lg_4 := hid (lg_3.out.quiet hq)
    have lp_4 := hid (lp_3.out.quiet hq)
    have hr4 := hid (hr3.out.stepQ hq)
    have lo_4 := hid (lo_3.out.quiet hq)
    have hB4 := hid (hB3.out.trans (hq.below _))
    have hs4 := hB4.out.size
    clear hq hB3 hr3 lg_3 lp_3
    by_cases h0 : R.length = 0
    · have hz : ((R.length : Int) == 0) = true := by simp [h0]
      have h0' := hid h0
      clear h0
      go_wp2_with fail
      refine (sameInts_any _ lg_4.out.at_ lp_4.out.at_ (by omega) (by omega)).mono ?_
      rw [sameB_self]
      rintro e w5 ⟨rfl, hq⟩
      go_wp2
      go_ret
      exact ⟨rfl, hB4.out.trans (hq.below _)⟩
    · have hz : ((R.length : Int) == 0) = false := by rw [beq_eq_false_iff_ne]; omega
      have hgood := linked_good (zss := zss) (x := x) (by rw [hR'.out]; omega)
      obtain ⟨h1, h2⟩ := goodB_true hgood
      have h1' := hid h1
      have h2' := hid h2
      have hR0 : 0 < R.length := by omega
      clear h0 hgood h1 h2
      clear hr4 hzl lo_1 lo_2 lo_3
      have hz12 := setsB_len h1'.out
      have h12 : ((zss.length : Int) == 12) = decide (zss.length = 12) := by rw [Bool.eq_iff_iff, beq_iff_eq, decide_eq_true_eq]; omega
      by_cases hfull : zss.length = 12
      · have hb12 : ((zss.length : Int) == 12) = true := by rw [h12]; simpa using hfull
        clear h12
        have hfull' := hid hfull
        clear hfull
        go_wp2_with fail
        refine (sameInts_any _ lg_4.out.at_ lp_4.out.at_ (by omega) (by omega)).mono ?_
        rw [sameB_self]
        rintro e w5 ⟨rfl, hq⟩
        go_wp2
        go_ret
        exact ⟨rfl, hB4.out.trans (hq.below _)⟩
      · have hb12 : ((zss.length : Int) == 12) = false := by rw [h12]; simpa using hfull
        have hl11 : zss.length < 12 := by omega
        clear h12 hfull
        obtain ⟨k, hk5, t1, t2⟩ : ∃ k : Nat, k < 5 ∧ (len2 : Int).tmod 5 = (k : Int) ∧ (len2 : Int) % 5 = (k : Int) := ⟨len2 % 5, Nat.mod_lt _ (by decide), by rw [Int.tmod_eq_emod_of_nonneg (by omega)]; simp, by simp⟩
        have hone := hid (OwI.one_lit (B := w4.heap.size) w4 (Nat.le_refl _) (k : Int))
        have hbo := hid ((Below.refl w4.heap.size w4).alloc (Nat.le_refl _) (.cells #[.int .i64 (k : Int)] 3))
        go_upto_if 54 with (fail)
        go_cut [9] (fun v wx => ∃ ys : List Int, OwI wx w4.heap.size v ys ∧ gvalid ys = true ∧ ys.length ≤ 2 ∧ Below w4.heap.size w4 wx)
        case first =>
          by_cases hk4 : k < 4
          · have hsz4 := hbo.out.size
            generalize w4.alloc (.cells #[.int .i64 (k : Int)] 3) = wl at hone hbo hsz4 ⊢
            go_wp2_with (at_builtin; refine wpList_app1 rfl (.tmp 55) (.tmp 56) rfl w4.heap.size 4 (.slice (some ⟨w4.heap.size, 0, none⟩) 1 1) [(k : Int)] rfl rfl hone.out hsz4 (by simp) ?_; intro v' w5 hown5 hbel5)
            go_meet
            have hgv : gvalid ([(k : Int)] ++ [4]) = true := by
              have : k = 0 ∨ k = 1 ∨ k = 2 ∨ k = 3 := by omega
              rcases this with rfl | rfl | rfl | rfl <;> decide +kernel
            exact ⟨_, hown5, hgv, by simp, hbo.out.trans hbel5⟩
          · obtain rfl : k = 4 := by omega
            go_wp2
            go_meet
            exact ⟨[4], hone.out, by decide +kernel, by simp, hbo.out⟩
        case rest =>
          clear hone hbo t1 t2 hk5
          obtain ⟨ys, ho5, hgv, hyl, hb5⟩ := hcut
          obtain ⟨w5, rfl⟩ : ∃ w5, w5 = wc := ⟨_, rfl⟩
          obtain ⟨A9, c9, rfl, _⟩ := ho5.form
          have hsz5 := Nat.le_trans hs4 hb5.size
          have lo_5 := hid (lo_4.out.below hb5)
          have lg_5 := hid (lg_4.out.step hb5)
          have hB5 := hid (hB4.out.trans (hb5.mono hs4))
          have hs5 := hid (ho5.more hs4)
          have hemp := hid (OwLL.empty_lit (lo := w.heap.size) w5 hsz5)
          have hbe := hid ((Below.refl w5.heap.size w5).alloc (Nat.le_refl _) (.cells #[] 23))
          have lo_6 := hid (lo_5.out.below hbe.out)
          have hs6 := hid (OwI.below hs5.out hbe.out)
          have lg_6 := hid (lg_5.out.step hbe.out)
          have hsz6 := Nat.le_trans hsz5 hbe.out.size
          have hgrow := hid (linked_grow h1'.out h2'.out hgv hl11)
          clear ho5 hb5 lg_4 lo_4
          go_wp2_with (first
            | (at_builtin; refine wpList_appSS rfl (.tmp 58) (.tmp 59) rfl w.heap.size (.slice (some ⟨w5.heap.size, 0, none⟩) 0 0) (.slice A zss.length c) [] zss rfl rfl hemp.out lo_6.out hsz6 (by simp; omega) ?_; intro v7 w7 hown7 hgr7 hbel7; have hs7 := hid (hs6.out.appV hemp.out hgr7); have lg_7 := hid (lg_6.out.appV hemp.out hgr7); have hsz7 := Nat.le_trans hsz6 hbel7.size; have lg_7a := hid (lg_7.out.step ((Below.refl w7.heap.size w7).alloc (Nat.le_refl _) (.cells #[.slice A9 ys.length c9] 23))); have hv7 := hid (hown7.below ((Below.refl w7.heap.size w7).alloc (Nat.le_refl _) (.cells #[.slice A9 ys.length c9] 23))))
            | (at_builtin; refine wpList_appSg rfl (.tmp 60) (.tmp 62) rfl w.heap.size (.slice A9 ys.length c9) v7 ys ([] ++ zss) rfl rfl hown7 hs7.out hsz7 (by simp; omega) ?_; intro v8 w8 hown8 hgr8 hbel8; have lg_8 := hid (lg_7a.out.appV hv7.out hgr8); obtain ⟨A8, c8, rfl, hr8⟩ := hown8.form; rw [List.nil_append, List.length_append, List.length_singleton] at hr8))
          have hshx : Short (zss ++ [ys]) := (Sh6.snoc hsh6.out (show ys.length ≤ 6 by omega)).short
          refine (GroupsLinked_impl x _ hr8 (by omega) hshx).mono ?_
          rintro e w9 ⟨v, rfl, ho, hb⟩
          have lx_9 := hid (Lv.ofI ho)
          have lg_9 := hid (lg_8.out.step hb)
          have hl9 := linkedR_len (zss ++ [ys]) x
          have hB8 := hid (((hB5.out.trans (hbe.out.mono hsz5)).trans hbel7).trans hbel8)
          have hB9 := hid (hB8.out.trans (hb.mono hB8.out.size))
          obtain ⟨T, hT⟩ : ∃ T, linkedR (zss ++ [ys]) x = T := ⟨_, rfl⟩
          have hgr9 : commonR R T = R := by rw [← hR'.out, ← hT]; exact hgrow.out
          have hTl : T.length ≤ 5 := by rw [← hT]; exact hl9
          have hgr9' := hid hgr9
          rw [hT] at lx_9
          clear hgr9 hT ho hb hl9
          obtain ⟨A9', c9', rfl⟩ := lx_9.out.rd
          have hs9 := hB9.out.size
          go_wp2_with fail
          refine (GroupsCommon_impl _ lg_9.out.at_ lx_9.out.at_ (by omega) (by omega)).mono ?_
          rw [hgr9'.out]
          rintro e w10 ⟨v, rfl, ho, hb⟩
          have hB10 := hid (hB9.out.trans (hb.mono hs9))
          obtain ⟨A10, c10, rfl, _⟩ := ho.form
          have heq : ((R.length : Int) == (R.length : Int)) = true := by simp
          clear ho hb
          go_wp2
          go_ret
          exact ⟨rfl, hB10.out⟩
  · go_enter Try.func8, Try.ntmps8
    go_wp2
    go_ret
    exact ⟨rfl, Below.refl _ _⟩

end Go.Proofs.Ytdahnideolaniaa
