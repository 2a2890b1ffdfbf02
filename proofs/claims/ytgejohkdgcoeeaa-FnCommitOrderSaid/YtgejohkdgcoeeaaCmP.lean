/-
  The walks of the laws FnCommitNeeded and FnCommitOrder. No condition.
-/
import Derived.Test.YtgejohkdgcoeeaaCmM
namespace Go.Proofs.Ytgejohkdgcoeeaa
open Go.RowKit

/-! ### mathematics -/
theorem needR_nat {zs : List Int} {x : Int} (hv : lvB zs = true) (hx : lnB x = true) : ∃ o : Nat, needR zs x = (o : Int) ∧ o + hav zs x = max (zs.length / 2 + 1) (hav zs x) := by
  have h := hav_le zs x
  refine ⟨max (zs.length / 2 + 1) (hav zs x) - hav zs x, ?_, by omega⟩
  rw [needR_yes hv hx]; omega

theorem set_hav {us : List Int} {k : Nat} {z x : Int} (hk : k < us.length) (hz : us.getD k 0 = z) (hlt : z < x) : hav (us.set k x) x = hav us x + 1 := by
  have e : us[k] = z := by rw [← hz]; simp [hk]
  have h1 : us = us.take k ++ z :: us.drop (k + 1) := by
    rw [← e]; simp
  have hl : (us.take k).length = k := by rw [List.length_take]; omega
  have h2 : us.set k x = us.take k ++ x :: us.drop (k + 1) := by
    conv => lhs; rw [h1]
    rw [List.set_append_right _ _ (by omega), hl, Nat.sub_self, List.set_cons_zero]
  have c1 : hav (us.take k ++ x :: us.drop (k + 1)) x = hav (us.take k) x + (hav (us.drop (k + 1)) x + 1) := by
    simp [hav, List.countP_append]
  have c2 : hav (us.take k ++ z :: us.drop (k + 1)) x = hav (us.take k) x + hav (us.drop (k + 1)) x := by
    have : ¬ x ≤ z := by omega
    simp [hav, List.countP_append, this]
  rw [h2, c1]
  conv => rhs; rw [h1, c2]
  omega
/-- what is there when some have got entries -/
def NeedInv (zs us : List Int) (x : Int) (o nn k : Nat) : Prop :=
  us.length = zs.length ∧ hav us x + nn = hav zs x + o ∧ (∀ u ∈ us, 0 ≤ u ∧ u ≤ 99) ∧ (0 < nn → ∀ j, j < k → x ≤ us.getD j 0)

theorem NeedInv.miss {zs us : List Int} {x z : Int} {o nn k : Nat} (h : NeedInv zs us x o nn k) (hz : us.getD k 0 = z) (hge : x ≤ z) : NeedInv zs us x o nn (k + 1) :=
  ⟨h.1, h.2.1, h.2.2.1, fun hn j hj => by
    by_cases e : j = k
    · subst e; rw [hz]; exact hge
    · exact h.2.2.2 hn j (by omega)⟩

theorem NeedInv.hit {zs us : List Int} {x z : Int} {o nn k : Nat} (h : NeedInv zs us x o (nn + 1) k) (hx : lnB x = true) (hk : k < us.length) (hz : us.getD k 0 = z) (hlt : z < x) : NeedInv zs (us.set k x) x o nn (k + 1) := by
  obtain ⟨h1, h2, h3, h4⟩ := h
  refine ⟨by rw [List.length_set]; exact h1, by rw [set_hav hk hz hlt]; omega, fun u hu => ?_, fun hn j hj => ?_⟩
  · obtain ⟨i, hi, e⟩ := mem_getD hu
    rw [set_getD hk] at e
    rw [List.length_set] at hi
    split at e
    · rw [← e]; exact lnB_true.1 hx
    · rw [← e]; exact h3 _ (getD_mem hi)
  · rw [set_getD hk]
    by_cases e : j = k
    · rw [if_pos e]; exact Int.le_refl _
    · rw [if_neg e]; exact h4 (by omega) j (by omega)

theorem NeedInv.done {zs us : List Int} {x : Int} {o nn k : Nat} (h : NeedInv zs us x o nn k) (hv : lvB zs = true) (hx : lnB x = true) (ho : o + hav zs x = max (zs.length / 2 + 1) (hav zs x)) (hk : nn = 0 ∨ k = zs.length) :
    nn = 0 ∧ (∀ c, CixR us c → x ≤ c) := by
  obtain ⟨h1, h2, h3, h4⟩ := h
  obtain ⟨g1, g7, _⟩ := lvB_true hv
  have hn0 : nn = 0 := by
    rcases hk with hk | hk
    · exact hk
    · by_cases e : nn = 0
      · exact e
      · have := h4 (by omega)
        have hall : hav us x = us.length := hav_pos fun u hu => by
          obtain ⟨i, hi, e2⟩ := mem_getD hu
          rw [← e2]; exact this i (by omega)
        have := hav_le zs x
        omega
  refine ⟨hn0, fun c hc => ?_⟩
  have hi := hc.1 (lvB_of (by omega) (by omega) h3)
  exact hi.le (by omega) (lnB_true.1 hx).2

theorem need_zero {zs : List Int} {x c : Int} {o : Nat} (hv : lvB zs = true) (hx : lnB x = true) (ho : o + hav zs x = max (zs.length / 2 + 1) (hav zs x)) (hc : CixR zs c) : (o = 0 ↔ x ≤ c) := by
  have hi := hc.1 hv
  constructor
  · intro h
    exact hi.le (by omega) (lnB_true.1 hx).2
  · intro h
    have := hi.anti h
    omega

set_option maxHeartbeats 1000000 in
theorem lawCommitNeeded {a : Option Addr} {len cap : Nat} {cs : List Int} (w : World) (h : RowIs .u8 w a len cap cs) :
    Calls Try.prog 8 #[.slice a len cap] w fun e w' => e = .returned (.bool true) ∧ Below w.heap.size w w' := by
  have h' := hid h
  clear h
  by_cases hbig : len ≤ 1048576
  · go_enter Try.func8, Try.ntmps8
    go_wp2_with fail
    refine (DrawCommitNeeded_any w h'.out).mono ?_
    rintro e w1 ⟨v, xs, x, rfl, ho1, hl1, hb1⟩
    have la_1 := hid (Lv.ofI ho1)
    have hB1 := hid hb1
    clear ho1 hb1
    obtain ⟨A, c, rfl⟩ := la_1.out.rd
    go_wp2_with fail
    refine (CommitNeeded_impl x _ la_1.out.at_ (Nat.le_refl _) (by omega)).mono ?_
    rintro e w2 ⟨rfl, hb⟩
    have la_2 := hid (la_1.out.step hb)
    have hB2 := hid (hB1.out.trans (hb.mono hB1.out.size))
    have hr2 := hid la_2.out.at_
    clear hb la_1 la_2 hB1
    go_wp2_with fail
    refine (CommitNeeded_spec x _ hr2.out (by omega)).mono ?_
    rintro e w3 ⟨rfl, rfl⟩
    obtain ⟨r, hr⟩ : ∃ r, needR xs x = r := ⟨_, rfl⟩
    rw [hr]
    have hr' := hid hr
    clear hr
    have hrr : (r != r) = false := by simp
    by_cases hok : lvB xs = true ∧ lnB x = true
    · obtain ⟨hv, hx⟩ := hok
      obtain ⟨o, ho, hmax⟩ := needR_nat hv hx
      obtain rfl : r = (o : Int) := by rw [← hr'.out]; exact ho
      have hv' := hid hv
      have hx' := hid hx
      have hmax' := hid hmax
      have h17 := lvB_true hv
      have hb99 := hid h17.2.2
      obtain ⟨n, hn⟩ : ∃ n, xs.length = n := ⟨_, rfl⟩
      have hn1 : 1 ≤ n := by rw [← hn]; exact h17.1
      have hn7 : n ≤ 7 := by rw [← hn]; exact h17.2.1
      have hol : o ≤ 7 := by have := hav_le xs x; omega
      have hn' := hid hn
      rw [hn] at hr2 hl1 ⊢
      obtain ⟨ad, z0, rfl, _, _⟩ := RdI.at' hr2.out (show 0 < n by omega)
      clear hn hv hx hmax ho h17 hr'
      have hs2 := hB2.out.size
      have hE0 := hid (OwI.empty_lit (B := w.heap.size) w2 hs2)
      have hr2a := hid (Reads.alloc hr2.out (Nat.le_refl _) (.cells #[] 3))
      have hs2a : w.heap.size ≤ (w2.alloc (.cells #[] 3)).heap.size := by simp; omega
      have hB2a := hid (hB2.out.alloc hs2 (.cells #[] 3))
      have hb20 := hid ((Below.refl w2.heap.size w2).alloc (Nat.le_refl _) (.cells #[] 3))
      have hE1 := hid (OwI.empty_lit (B := w2.heap.size) w2 (Nat.le_refl _))
      go_wp2_with (at_builtin; refine wpList_appN rfl (.tmp 34) (.tmp 35) rfl w2.heap.size w2.heap.size _ [] xs ad n c rfl rfl hE1.out hr2a.out (by omega) (by simp) (by decide) (by omega) ?_; intro v4 w4 ho4 hb4)
      rw [List.nil_append] at ho4
      have hb24 := hid (hb20.out.trans hb4)
      have hB4 := hid (hB2.out.trans (hb24.out.mono hB2.out.size))
      have hr4 := hid (Reads.below hr2.out hb24.out)
      obtain ⟨b, cap4, rfl, hbl, hbs⟩ := ho4.row (by rw [hn'.out]; omega)
      have ho4' : Hid (w4.ownsRow w2.heap.size 3 1 (.slice (some ⟨b, 0, none⟩) n cap4) n (ints xs)) := hid (by
        rw [OwI, hn'.out] at ho4; exact ho4)
      rw [hn'.out]
      have hbw : w.heap.size ≤ b := by omega
      clear ho4 hb4 hE0 hE1 hr2a hr2 hb20 hB2a hs2a
      go_wp2
      go_loopw [8, 9] (fun t i wr => ∃ (k nn : Nat) (us : List Int), k ≤ n ∧ nn ≤ o ∧ i = .int .i64 k ∧ t = .int .i64 nn ∧ Hid (NeedInv xs us x o nn k) ∧ Hid (wr.ownsRow w2.heap.size 3 1 (.slice (some ⟨b, 0, none⟩) n cap4) n (ints us)) ∧ Hid (RdI wr w2.heap.size (some ad) n xs) ∧ Hid (Below w.heap.size w wr)) (fun _ i _ => n - (intOf i).toNat)
      case atStart => exact ⟨0, o, xs, by omega, Nat.le_refl _, rfl, rfl, hid ⟨rfl, rfl, hb99.out, fun _ j hj => by omega⟩, ho4', hr4, hB4⟩
      case round =>
        obtain ⟨k, nn, us, hk, hnn, rfl, rfl, hinv, hown, hr5, hB5⟩ := hrel
        by_cases hgo : k < n ∧ 0 < nn
        · obtain ⟨hlt, hnp⟩ := hgo
          have hul := hid (show us.length = n by rw [hinv.out.1, hn'.out])
          obtain ⟨z, hz⟩ : ∃ z, us.getD k 0 = z := ⟨_, rfl⟩
          have hcell : wr.cell? ⟨b, k, none⟩ = some (.int .i64 z) := by
            rw [hown.out.cellAt k (by omega), ← hz]
            have : k < us.length := by rw [hul.out]; exact hlt
            simp [this]
          have hfr : wr.frozen? ⟨b, k, none⟩ = false := hown.out.frozenAt k
          have hz' := hid hz
          clear hz
          by_cases hzx : z < x
          · obtain ⟨nn, rfl⟩ : ∃ q, nn = q + 1 := ⟨nn - 1, by omega⟩
            have hst := hid (hown.out.stored k (.int .i64 x))
            have hinv2 := hid (hinv.out.hit hx'.out (by rw [hul.out]; exact hlt) hz'.out hzx)
            have hw : IntKind.i64.wrap ((nn : Int) + 1 - 1) = (nn : Int) := by
              rw [show (nn : Int) + 1 - 1 = (nn : Int) by omega]; exact IntWalk.i64_in _ (by omega)
            have hr6 := hid (Reads.keep hr5.out fun q hq => World.cell?_setCell_other wr ⟨b, k, none⟩ q (.int .i64 x) (fun e => by subst e; exact absurd hq (by simp; omega)))
            have hB6 := hid (hB5.out.setCell (p := ⟨b, k, none⟩) hbw (.int .i64 x))
            go_wp2
            go_roundw
            case rel => exact ⟨k + 1, nn, us.set k x, by omega, by omega, by go_num, by go_num, hinv2, hid (by rw [ints, List.map_set]; exact hst.out.1), hr6, hB6⟩
            case measure => simp [intOf]; omega
          · have hinv2 := hid (hinv.out.miss hz'.out (by omega))
            go_wp2
            go_roundw
            case rel => exact ⟨k + 1, nn, us, by omega, hnn, by go_num, rfl, hinv2, hown, hr5, hB5⟩
            case measure => simp [intOf]; omega
        · have hdone := hinv.out.done hv'.out hx'.out hmax'.out (by rw [hn'.out]; omega)
          obtain ⟨rfl, hcx⟩ := hdone
          have hcx' := hid hcx
          have hul : us.length = n := by rw [hinv.out.1, hn'.out]
          have hru : Hid (RdI wr wr.heap.size (some ⟨b, 0, none⟩) n us) := hid (Reads.of_own (c := cap4) hown.out)
          have hsz : w2.heap.size ≤ wr.heap.size := Nat.le_of_lt (Nat.lt_of_le_of_lt hbl (by
            have := (hown.out.lt b rfl).2; exact this))
          have hrx : Hid (RdI wr wr.heap.size (some ad) n xs) := hid (Reads.more hr5.out hsz)
          clear hcx hul hown hr5 hinv
          by_cases hkn : k < n
          · go_wp2_with fail
            refine (CommitIndex_impl _ hrx.out (Nat.le_refl _) (by omega)).mono ?_
            rintro e w6 ⟨q, rfl, hc6, hb6⟩
            have hz := need_zero hv'.out hx'.out hmax'.out hc6
            have hru6 := hid (Reads.more (Reads.below hru.out hb6) hb6.size)
            have hB6 := hid (hB5.out.trans (hb6.mono hB5.out.size))
            clear hb6 hc6
            have hbb : ((o : Int) == 0) = decide (x ≤ q) := by
              rw [Bool.eq_iff_iff]; simp; omega
            have hbc : (decide (x ≤ q) == decide (x ≤ q)) = true := by simp
            clear hz
            go_wp2_with fail
            refine (CommitIndex_impl _ hru6.out (Nat.le_refl _) (by omega)).mono ?_
            rintro e w7 ⟨q7, rfl, hc7, hb7⟩
            have hle := hcx'.out _ hc7
            have hB7 := hid (hB6.out.trans (hb7.mono hB6.out.size))
            clear hb7 hc7
            go_wp2
            go_ret
            exact ⟨rfl, hB7.out⟩
          · go_wp2_with fail
            refine (CommitIndex_impl _ hrx.out (Nat.le_refl _) (by omega)).mono ?_
            rintro e w6 ⟨q, rfl, hc6, hb6⟩
            have hz := need_zero hv'.out hx'.out hmax'.out hc6
            have hru6 := hid (Reads.more (Reads.below hru.out hb6) hb6.size)
            have hB6 := hid (hB5.out.trans (hb6.mono hB5.out.size))
            clear hb6 hc6
            have hbb : ((o : Int) == 0) = decide (x ≤ q) := by
              rw [Bool.eq_iff_iff]; simp; omega
            have hbc : (decide (x ≤ q) == decide (x ≤ q)) = true := by simp
            clear hz
            go_wp2_with fail
            refine (CommitIndex_impl _ hru6.out (Nat.le_refl _) (by omega)).mono ?_
            rintro e w7 ⟨q7, rfl, hc7, hb7⟩
            have hle := hcx'.out _ hc7
            have hB7 := hid (hB6.out.trans (hb7.mono hB6.out.size))
            clear hb7 hc7
            go_wp2
            go_ret
            exact ⟨rfl, hB7.out⟩
    · obtain rfl : r = -1 := by
        rw [← hr'.out]
        cases hv : lvB xs with
        | false => exact needR_no1 hv
        | true => exact needR_no2 (by
            cases hx : lnB x with
            | false => rfl
            | true => exact absurd ⟨hv, hx⟩ hok)
      clear hok
      go_wp2
      go_ret
      exact ⟨rfl, hB2.out⟩
  · go_enter Try.func8, Try.ntmps8
    go_wp2
    go_ret
    exact ⟨rfl, Below.refl _ _⟩

theorem rev_step {xs : List Int} {j : Nat} {z : Int} (hj : j < xs.length) (hz : xs.getD j 0 = z) : (xs.drop j).reverse = (xs.drop (j + 1)).reverse ++ [z] := by
  have e : xs[j] = z := by rw [← hz]; simp [hj]
  rw [List.drop_eq_getElem_cons hj, e]; simp

set_option maxHeartbeats 1000000 in
theorem lawCommitOrder {a a' : Option Addr} {len cap len' cap' : Nat} {cs : List Int} (w : World) (h : RowIs .u8 w a len cap cs) :
    Calls Try.prog 10 #[.slice a len cap, .slice a' len' cap'] w fun e w' => e = .returned (.bool true) ∧ Below w.heap.size w w' := by
  have h' := hid h
  clear h
  by_cases hbig : len ≤ 1048576
  · by_cases hbig2 : len' ≤ 1048576
    · go_enter Try.func10, Try.ntmps10
      go_wp2_with fail
      refine (DrawCommitIndex_any w h'.out).mono ?_
      rintro e w1 ⟨v, xs, rfl, ho1, hl1, hb1⟩
      have la_1 := hid (Lv.ofI ho1)
      have hB1 := hid hb1
      clear ho1 hb1
      obtain ⟨A, c, rfl⟩ := la_1.out.rd
      go_wp2_with fail
      refine (CommitIndex_impl _ la_1.out.at_ (Nat.le_refl _) (by omega)).mono ?_
      rintro e w2 ⟨r, rfl, hc, hb⟩
      have la_2 := hid (la_1.out.step hb)
      have hB2 := hid (hB1.out.trans (hb.mono hB1.out.size))
      have hr2 := hid la_2.out.at_
      have hc' := hid hc
      clear hb la_1 la_2 hB1
      go_wp2_with fail
      refine (CommitIndex_spec _ hr2.out (by omega)).mono ?_
      rintro e w3 ⟨r2, rfl, hc2, rfl⟩
      obtain rfl : r = r2 := hc'.out.uniq hc2
      have hrr : (r != r) = false := by simp
      clear hc2
      cases hv : lvB xs with
      | false =>
        obtain rfl : r = -1 := hc'.out.2 hv
        go_wp2
        go_ret
        exact ⟨rfl, hB2.out⟩
      | true =>
        have hi := hid (hc'.out.1 hv)
        have hr0 := hi.out.1
        have hr9 := hi.out.2.1
        have hs2 := hB2.out.size
        obtain ⟨n, hn⟩ : ∃ n, xs.length = n := ⟨_, rfl⟩
        have hn' := hid hn
        rw [hn] at hr2 hl1 ⊢
        clear hn hv hi
        obtain ⟨k, hk⟩ : ∃ k, len' % 12 = k := ⟨_, rfl⟩
        have t1 : (len' : Int).tmod 12 = (k : Int) := by rw [Int.tmod_eq_emod_of_nonneg (by omega)]; omega
        have t1' := hid t1
        clear t1 hk
        go_wp2
        go_loopw [8, 9] (fun o i wr => ∃ j : Nat, j ≤ n ∧ i = .int .i64 ((j : Int) - 1) ∧ Hid (OwI wr w2.heap.size o ((xs.drop j).reverse)) ∧ Hid (Below w2.heap.size w2 wr)) (fun _ i _ => (intOf i + 1).toNat)
        case atStart =>
          refine ⟨n, Nat.le_refl _, rfl, hid ?_, hid (below_one _ _)⟩
          rw [List.drop_eq_nil_of_le (by rw [hn'.out]; exact Nat.le_refl _)]
          exact OwI.empty_lit w2 (Nat.le_refl _)
        case round =>
          obtain ⟨j, hj, rfl, hown, hbel⟩ := hrel
          rcases Nat.eq_zero_or_pos j with rfl | h0
          · have ho := hown.out
            rw [List.drop_zero] at ho
            have hs3 := hbel.out.size
            have lb := hid (Lv.ofI ho)
            obtain ⟨Ab, cb, rfl⟩ := lb.out.rd
            have hrl : xs.reverse.length = n := by rw [List.length_reverse, hn'.out]
            have hrb : Hid (RdI wr wr.heap.size Ab n xs.reverse) := hid (by
              have := lb.out.at_
              rw [hrl] at this; exact this)
            have hrx : Hid (RdI wr wr.heap.size A n xs) := hid (Reads.more (Reads.below hr2.out hbel.out) hs3)
            have hB3 := hid (hB2.out.trans (hbel.out.mono hs2))
            rw [hrl]
            clear ho lb hown hrl
            have t2 := t1'.out
            go_wp2_with fail
            refine (CommitIndex_impl _ hrb.out (Nat.le_refl _) (by omega)).mono ?_
            rintro e w6 ⟨q, rfl, hc6, hb6⟩
            obtain rfl : q = r := hc6.uniq hc'.out.rev
            have hrb6 := hid (Reads.more (Reads.below hrb.out hb6) hb6.size)
            have hrx6 := hid (Reads.more (Reads.below hrx.out hb6) hb6.size)
            have hB6 := hid (hB3.out.trans (hb6.mono hB3.out.size))
            have hqq : (q == q) = true := by simp
            clear hb6 hc6 hrr
            go_wp2_with fail
            refine (CommitNeeded_impl _ _ hrb6.out (Nat.le_refl _) (by omega)).mono ?_
            rw [needR_rev]
            rintro e w7 ⟨rfl, hb7⟩
            have hrx7 := hid (Reads.more (Reads.below hrx6.out hb7) hb7.size)
            have hB7 := hid (hB6.out.trans (hb7.mono hB6.out.size))
            clear hb7
            go_wp2_with fail
            refine (CommitNeeded_impl _ _ hrx7.out (Nat.le_refl _) (by omega)).mono ?_
            rintro e w8 ⟨rfl, hb8⟩
            have hB8 := hid (hB7.out.trans (hb8.mono hB7.out.size))
            have hnn : (needR xs (k : Int) == needR xs (k : Int)) = true := by simp
            clear hb8
            go_wp2
            go_ret
            exact ⟨rfl, hB8.out⟩
          · obtain ⟨j, rfl⟩ : ∃ q, j = q + 1 := ⟨j - 1, by omega⟩
            have e1 : ((j + 1 : Nat) : Int) - 1 = (j : Int) := by omega
            rw [e1]
            clear e1
            have hjn : j < n := by omega
            obtain ⟨ad, z, rfl, hz, hcz⟩ := RdI.at' (Reads.below hr2.out hbel.out) hjn
            have hst := hid (rev_step (by rw [hn'.out]; exact hjn) hz.out)
            have hs3 := hbel.out.size
            have hlen : ((xs.drop (j + 1)).reverse).length < 1099511627776 := by simp [hn'.out]; omega
            have hlen' := hid hlen
            clear hz hlen
            go_wp2_with (at_builtin; refine wpList_app1 rfl (.tmp 43) (.tmp 48) rfl w2.heap.size z _ _ rfl rfl hown.out hs3 hlen'.out ?_; intro v' w4 hown' hbel')
            go_roundw
            case rel => exact ⟨j, by omega, by go_num, hid (by rw [hst.out]; exact hown'), hid (hbel.out.trans hbel')⟩
            case measure => simp [intOf]
    · by_cases hb0 : len ≤ 1048576
      · go_enter Try.func10, Try.ntmps10
        go_wp2
        go_ret
        exact ⟨rfl, Below.refl _ _⟩
      · omega
  · go_enter Try.func10, Try.ntmps10
    go_wp2
    go_ret
    exact ⟨rfl, Below.refl _ _⟩
end Go.Proofs.Ytgejohkdgcoeeaa
