/-
  The program's checks of states and transactions. No condition but lengths below 2^40.
-/
import Derived.Test.YteagmkhpfmiaiaaSoN
import Derived.Test.YteagmkhpfmiaiaaLl
namespace Go.Proofs.Yteagmkhpfmiaiaa
open Go.RowKit
set_option linter.unusedVariables false
set_option linter.unusedSimpArgs false

set_option maxHeartbeats 400000 in
theorem amountExists_any (n : Int) (w : World) : Calls Try.prog 50 #[.int .i64 n] w fun e w' => e = .returned (.bool (amt n)) ∧ w = w' := by
  go_enter Try.func50, Try.ntmps50
  go_wp2
  all_goals go_ret
  · exact ⟨ret_bool (by simp [amt, inB, *]; try omega), rfl⟩
  · exact ⟨ret_bool (by simp [amt, inB, *]; try omega), rfl⟩

set_option maxHeartbeats 400000 in
theorem badAmount_any (n : Int) (w : World) : Calls Try.prog 49 #[.int .i64 n] w fun e w' => e = .returned (.bool (!amt n)) ∧ w = w' := by
  go_enter Try.func49, Try.ntmps49
  go_wp2_with (go_at_call 50; (with_reducible refine (amountExists_any _ _).mono ?_); rintro e w' ⟨rfl, rfl⟩)
  go_ret
  exact ⟨rfl, rfl⟩

/-- a place, or -1 -/
def IdxPost (b : Bool) (w : World) (e : Ending) (w' : World) : Prop := ∃ r : Int, e = .returned (.int .i64 r) ∧ ((0 ≤ r ∧ b = true) ∨ (r = -1 ∧ b = false)) ∧ Below w.heap.size w w'

set_option maxHeartbeats 1000000 in
theorem IndexAmt_any {B n c : Nat} {A : Option Addr} {zs : List Int} (w : World) (hr : RdI w B A n zs) (hn : n < 1099511627776) :
    Calls Try.prog 77 #[.slice A n c, .func (.func 49) #[] #[]] w (IdxPost (!zs.all amt) w) := by
  have hl' := hid hr.len
  have hr' := hid hr
  clear hr
  go_enter Try.func77, Try.ntmps77
  go_wp2
  go_loop [8] (fun i => ∃ k : Nat, k ≤ n ∧ i = .int .i64 k ∧ Hid (∀ j, j < k → amt (zs.getD j 0) = true)) (fun i => n - (intOf i).toNat)
  case atStart => exact ⟨0, Nat.zero_le _, rfl, hid (fun j h => by omega)⟩
  case round =>
    obtain ⟨k, hk, rfl, hall⟩ := hrel
    by_cases hlt : k < n
    · obtain ⟨ad, z, rfl, hz, hc⟩ := hr'.out.at' hlt
      cases ha : amt z with
      | true =>
        have ha' := hid ha
        clear ha
        go_wp2_with (go_at_call 49; (with_reducible refine (badAmount_any _ _).mono ?_); rw [ha'.out]; rintro e w' ⟨rfl, rfl⟩)
        go_round
        case rel => exact ⟨k + 1, by omega, by go_num, hid (fun j hj => by
            by_cases e : j = k
            · subst e; rw [hz.out]; exact ha'.out
            · exact hall.out j (by omega))⟩
        case measure => simp [intOf]; omega
      | false =>
        have ha' := hid ha
        have hbad := hid (show (!zs.all amt) = true by
          have : zs.all amt = false := by
            rw [List.all_eq_false]
            have hkl : k < zs.length := by rw [hl'.out]; exact hlt
            refine ⟨zs[k], List.getElem_mem hkl, ?_⟩
            have e : zs[k] = z := by rw [← hz.out]; simp [hkl]
            rw [e, ha]; simp
          simp [this])
        clear ha
        go_wp2_with (go_at_call 49; (with_reducible refine (badAmount_any _ _).mono ?_); rw [ha'.out]; rintro e w' ⟨rfl, rfl⟩)
        go_ret
        exact ⟨_, rfl, .inl ⟨by omega, hbad.out⟩, Below.refl _ _⟩
    · have hfin := hid (show (!zs.all amt) = false by
        have : zs.all amt = true := by
          rw [List.all_eq_true]; intro x hx
          obtain ⟨i, hi, rfl⟩ := List.getElem_of_mem hx
          have := hall.out i (by rw [hl'.out] at hi; omega)
          simpa [hi] using this
        simp [this])
      go_wp2
      go_ret
      exact ⟨_, rfl, .inr ⟨rfl, hfin.out⟩, Below.refl _ _⟩

set_option maxHeartbeats 400000 in
theorem ContainsAmt_any {B n c : Nat} {A : Option Addr} {zs : List Int} (w : World) (hr : RdI w B A n zs) (hn : n < 1099511627776) :
    Calls Try.prog 51 #[.slice A n c, .func (.func 49) #[] #[]] w fun e w' => e = .returned (.bool (!zs.all amt)) ∧ Below w.heap.size w w' := by
  have hr' := hid hr
  clear hr
  go_enter Try.func51, Try.ntmps51
  go_wp2_with fail
  refine (IndexAmt_any w hr'.out hn).mono ?_
  rintro e w2 ⟨r, rfl, (⟨h0, hb⟩ | ⟨rfl, hb⟩), hbe⟩
  · have hb' := hid hb
    have hbe' := hid hbe
    clear hb hbe
    go_wp2
    go_ret
    exact ⟨ret_bool hb'.out.symm, hbe'.out⟩
  · have hb' := hid hb
    have hbe' := hid hbe
    clear hb hbe
    go_wp2
    go_ret
    exact ⟨ret_bool hb'.out.symm, hbe'.out⟩

set_option maxHeartbeats 1000000 in
theorem StoreValid_impl {B n c : Nat} {A : Option Addr} {zs : List Int} (w : World) (hr : RdI w B A n zs) (hn : n < 1099511627776) :
    Calls Try.prog 22 #[.slice A n c] w fun e w' => e = .returned (.bool (vst zs)) ∧ Below w.heap.size w w' := by
  have hl := hr.len
  have hr' := hid hr
  clear hr
  by_cases h15 : n = 15
  · have hb : ((n : Int) == 15) = true := by simp [h15]
    have R := hid (show vst zs = zs.all amt by unfold vst; rw [hl, decide_eq_true h15, Bool.and_true])
    clear h15 hl
    go_enter Try.func22, Try.ntmps22
    go_wp2_with (go_at_call 51; (with_reducible refine (ContainsAmt_any _ hr'.out hn).mono ?_); rintro e w2 ⟨rfl, hb2⟩; have hb2' := hid hb2; clear hb2)
    go_ret
    exact ⟨ret_bool R.out.symm, hb2'.out⟩
  · have hb : ((n : Int) == 15) = false := by rw [beq_eq_false_iff_ne]; omega
    have R := hid (vst_nolen (zs := zs) (by rw [hl]; exact h15))
    clear h15 hl
    go_enter Try.func22, Try.ntmps22
    go_wp2_with (go_at_call 51; (with_reducible refine (ContainsAmt_any _ hr'.out hn).mono ?_); rintro e w2 ⟨rfl, hb2⟩)
    go_ret
    exact ⟨ret_bool R.out.symm, Below.refl _ _⟩

set_option maxHeartbeats 1000000 in
theorem keysAscend_any {B n c : Nat} {A : Option Addr} {zs : List Int} (w : World) (hr : RdI w B A n zs) (hn : n < 1099511627776) :
    Calls Try.prog 71 #[.slice A n c] w fun e w' => e = .returned (.bool (decide (Asc zs))) ∧ w = w' := by
  have hl' := hid hr.len
  have hr' := hid hr
  clear hr
  go_enter Try.func71, Try.ntmps71
  go_wp2
  go_loop [3, 8] (fun l i => ∃ (k : Nat) (y : Int), k ≤ n ∧ i = .int .i64 k ∧ l = .int .i64 y ∧ Hid (lastK zs k = y) ∧ Hid (AscTo zs k)) (fun _ i => n - (intOf i).toNat)
  case atStart => exact ⟨0, -1, Nat.zero_le _, rfl, rfl, hid rfl, hid (AscTo.zero _)⟩
  case round =>
    obtain ⟨k, y, hk, rfl, rfl, hy, hasc⟩ := hrel
    by_cases hlt : k < n
    · obtain ⟨ad, z, rfl, hz, hc⟩ := hr'.out.at' hlt
      have hkl := hid (show k < zs.length by rw [hl'.out]; exact hlt)
      by_cases h1 : z ≤ y
      · have R := hid (show decide (Asc zs) = false by rw [decide_eq_false_iff_not]; exact Asc.not_last hkl.out hz.out (by rw [hy.out]; exact h1))
        go_wp2
        go_ret
        exact ⟨ret_bool R.out.symm, rfl⟩
      · by_cases h2 : 15 ≤ z
        · have R := hid (show decide (Asc zs) = false by rw [decide_eq_false_iff_not]; exact Asc.not_of hkl.out hz.out (by omega))
          go_wp2
          go_ret
          exact ⟨ret_bool R.out.symm, rfl⟩
        · have hN := hid (hasc.out.last hz.out (by rw [hy.out]; omega) (by omega))
          have hL := hid (lastK_succ hz.out)
          go_wp2
          go_round
          case rel => exact ⟨k + 1, z, by omega, by go_num, rfl, hL, hN⟩
          case measure => simp [intOf]; omega
    · have R := hid (show decide (Asc zs) = true by
        rw [decide_eq_true_eq]
        exact asc_full hl'.out (by have e : k = n := by omega
                                   rw [← e]; exact hasc.out))
      go_wp2
      go_ret
      exact ⟨ret_bool R.out.symm, rfl⟩

set_option maxRecDepth 100000 in
set_option maxHeartbeats 2000000 in
theorem putKeys_any {A1 A2 : Option Addr} {n1 c1 n2 c2 : Nat} {nd : Int} {ps : List (Int × Int)} (w : World) (hp : RdP w A2 n2 ps) (hn : n2 < 1099511627776) :
    Calls Try.prog 53 #[txV (.slice A1 n1 c1) nd (.slice A2 n2 c2)] w (NewI w (keysP ps)) := by
  obtain ⟨u0, hu0⟩ : ∃ W, w.alloc (.cells #[.slice A1 n1 c1, .int .i64 nd, .slice A2 n2 c2] 26) = W := ⟨_, rfl⟩
  have hbb : Below w.heap.size w u0 := by rw [← hu0]; exact below1 _ _
  have hK := hid (show Cs u0 w.heap.size 26 #[.slice A1 n1 c1, .int .i64 nd, .slice A2 n2 c2] by rw [← hu0]; exact Cs.new _ _ _)
  have hp2 := hid (hp.step hbb)
  have hlp := hid hp.len
  obtain ⟨xb, hxb⟩ : ∃ b, w.heap.size = b := ⟨_, rfl⟩
  have hB := hid hbb
  rw [hxb] at hK
  replace hu0 := hid hu0
  clear hp hbb
  go_enter Try.func53, Try.ntmps53
  go_upto_region 1 with (fail)
  rw [hu0.out]
  try rw [hxb]
  replace hxb := hid hxb
  obtain ⟨d0, d1, d2⟩ := (hK.out.alloc (.cells #[] 3)).tri
  go_wp2
  go_loopw [3, 10] (fun o i wr => ∃ k : Nat, k ≤ n2 ∧ i = .int .i64 k ∧ OwI wr u0.heap.size o ((keysP ps).take k) ∧ Hid (Below u0.heap.size u0 wr)) (fun _ i _ => n2 - (intOf i).toNat)
  case atStart => exact ⟨0, Nat.zero_le _, rfl, OwI.empty_lit u0 (Nat.le_refl _), hid (below1 u0 _)⟩
  case round =>
    obtain ⟨k, hk, rfl, hown, hbe⟩ := hrel
    have hsz := hbe.out.size
    have hpr := hid (hp2.out.step hbe.out)
    have hll : ((keysP ps).take k).length < 1099511627776 := by have := List.length_take_le k (keysP ps); omega
    by_cases hlt : k < n2
    · obtain ⟨b, off, x, dd, rfl, hx, hbl, e0, e1⟩ := hpr.out.at_ hlt
      have hN := hid (show (keysP ps).take (k + 1) = (keysP ps).take k ++ [x] from take_snocI (by rw [keysP_len, hlp.out]; exact hlt) (keysP_getD hx.out))
      go_upto_region 5 with (fail)
      obtain ⟨wa, hwa⟩ : ∃ W, wr.alloc (.cells #[.int .i64 x, .int .i64 dd] 33) = W := ⟨_, rfl⟩
      try rw [hwa]
      have hba : Below wr.heap.size wr wa := by rw [← hwa]; exact below1 _ _
      have hkp := hid (show Cs wa wr.heap.size 33 #[.int .i64 x, .int .i64 dd] by rw [← hwa]; exact Cs.new _ _ _)
      obtain ⟨p0, p1, -, -⟩ := (hkp.out.alloc (.cells #[.int .i64 x] 3)).two
      obtain ⟨q0, q1, -, -⟩ := hkp.out.two
      have hown2 := hown.stepS hba
      have hbe2 := hid (hbe.out.trans (hba.mono hsz))
      have hsz2 := hbe2.out.size
      clear hba hwa
      go_wp2_with (at_builtin; refine wpList_app1 rfl (.tmp 14) (.tmp 17) rfl u0.heap.size x _ _ rfl rfl hown2 hsz2 hll ?_; intro v' w1 hown' hbel')
      go_roundw
      case rel => exact ⟨k + 1, by omega, by go_num, by rw [hN.out]; exact hown', hid (hbe2.out.trans hbel')⟩
      case measure => simp [intOf]; omega
    · have e : k = n2 := by omega
      rw [List.take_of_length_le (by rw [keysP_len, hlp.out]; omega)] at hown
      obtain ⟨A9, c9, rfl, -⟩ := hown.form
      go_wp2
      go_ret
      exact ⟨_, rfl, hown.more hB.out.size, hB.out.trans (hbe.out.mono hB.out.size)⟩

set_option maxHeartbeats 400000 in
theorem PutValid_any (x d : Int) (w : World) : Calls Try.prog 70 #[.agg #[.int .i64 x, .int .i64 d]] w fun e w' => e = .returned (.bool (inB d (-999) 999)) ∧ Below w.heap.size w w' := by
  have hb := hid (below1 w (.cells #[.int .i64 x, .int .i64 d] 33))
  go_enter Try.func70, Try.ntmps70
  go_wp2
  all_goals go_ret
  · exact ⟨ret_bool (by simp [inB, *]; try omega), hb.out⟩
  · exact ⟨ret_bool (by simp [inB, *]; try omega), hb.out⟩

set_option maxHeartbeats 400000 in
theorem badPut_any (x d : Int) (w : World) : Calls Try.prog 69 #[.agg #[.int .i64 x, .int .i64 d]] w fun e w' => e = .returned (.bool (!inB d (-999) 999)) ∧ Below w.heap.size w w' := by
  have hb := hid (below1 w (.cells #[.int .i64 x, .int .i64 d] 33))
  go_enter Try.func69, Try.ntmps69
  go_wp2_with (go_at_call 70; (with_reducible refine (PutValid_any _ _ _).mono ?_); rintro e w2 ⟨rfl, hb2⟩; have hb2' := hid hb2; clear hb2)
  go_ret
  exact ⟨rfl, hb.out.trans (hb2'.out.mono hb.out.size)⟩

def adds (ps : List (Int × Int)) : Bool := ps.all fun p => inB p.2 (-999) 999

theorem adds_iff {ps : List (Int × Int)} : adds ps = decide (AddOk ps) := by
  rw [Bool.eq_iff_iff, decide_eq_true_eq]
  unfold adds AddOk
  rw [List.all_eq_true]
  exact ⟨fun h p hp => inB_true.1 (h p hp), fun h p hp => inB_true.2 (h p hp)⟩

set_option maxRecDepth 100000 in
set_option maxHeartbeats 1000000 in
theorem IndexPut_any {n c : Nat} {A : Option Addr} {ps : List (Int × Int)} (w : World) (hr : RdP w A n ps) (hn : n < 1099511627776) :
    Calls Try.prog 82 #[.slice A n c, .func (.func 69) #[] #[]] w (IdxPost (!adds ps) w) := by
  have hl' := hid hr.len
  have hr' := hid hr
  clear hr
  go_enter Try.func82, Try.ntmps82
  go_wp2
  go_loopw [8] (fun i wr => ∃ k : Nat, k ≤ n ∧ i = .int .i64 k ∧ Hid (Below w.heap.size w wr) ∧ Hid (∀ (j : Nat) x, j < k → ps[j]? = some x → inB x.2 (-999) 999 = true)) (fun i _ => n - (intOf i).toNat)
  case atStart => exact ⟨0, Nat.zero_le _, rfl, hid (Below.refl _ _), hid (fun j x h => by omega)⟩
  case round =>
    obtain ⟨k, hk, rfl, hbe, hall⟩ := hrel
    by_cases hlt : k < n
    · obtain ⟨b, off, x, dd, rfl, hx, hbl, e0, e1⟩ := (hr'.out.step hbe.out).at_ hlt
      cases ha : inB dd (-999) 999 with
      | true =>
        have ha' := hid ha
        clear ha
        go_wp2_with (go_at_call 69; (with_reducible refine (badPut_any _ _ _).mono ?_); rw [ha'.out]; rintro e w2 ⟨rfl, hb2⟩; have hb2' := hid hb2; clear hb2)
        go_roundw
        case rel => exact ⟨k + 1, by omega, by go_num, hid (hbe.out.trans (hb2'.out.mono hbe.out.size)), hid (fun j y hj hy => by
            by_cases e : j = k
            · subst e; rw [hx.out] at hy; injection hy with hy; subst hy; exact ha'.out
            · exact hall.out j y (by omega) hy)⟩
        case measure => simp [intOf]; omega
      | false =>
        have ha' := hid ha
        have hbad := hid (show (!adds ps) = true by
          have : adds ps = false := by
            unfold adds
            rw [List.all_eq_false]
            exact ⟨_, List.mem_of_getElem? hx.out, by simp [ha]⟩
          simp [this])
        clear ha
        go_wp2_with (go_at_call 69; (with_reducible refine (badPut_any _ _ _).mono ?_); rw [ha'.out]; rintro e w2 ⟨rfl, hb2⟩; have hb2' := hid hb2; clear hb2)
        go_ret
        exact ⟨_, rfl, .inl ⟨by omega, hbad.out⟩, hbe.out.trans (hb2'.out.mono hbe.out.size)⟩
    · have hfin := hid (show (!adds ps) = false by
        have : adds ps = true := by
          unfold adds
          rw [List.all_eq_true]; intro x hx
          obtain ⟨i, hi⟩ := List.getElem?_of_mem hx
          exact hall.out i x (by have := (List.getElem?_eq_some_iff.1 hi).1; rw [hl'.out] at this; omega) hi
        simp [this])
      go_wp2
      go_ret
      exact ⟨_, rfl, .inr ⟨rfl, hfin.out⟩, hbe.out⟩

set_option maxHeartbeats 400000 in
theorem ContainsPut_any {n c : Nat} {A : Option Addr} {ps : List (Int × Int)} (w : World) (hr : RdP w A n ps) (hn : n < 1099511627776) :
    Calls Try.prog 72 #[.slice A n c, .func (.func 69) #[] #[]] w fun e w' => e = .returned (.bool (!adds ps)) ∧ Below w.heap.size w w' := by
  have hr' := hid hr
  clear hr
  go_enter Try.func72, Try.ntmps72
  go_wp2_with fail
  refine (IndexPut_any w hr'.out hn).mono ?_
  rintro e w2 ⟨r, rfl, (⟨h0, hb⟩ | ⟨rfl, hb⟩), hbe⟩
  · have hb' := hid hb
    have hbe' := hid hbe
    clear hb hbe
    go_wp2
    go_ret
    exact ⟨ret_bool hb'.out.symm, hbe'.out⟩
  · have hb' := hid hb
    have hbe' := hid hbe
    clear hb hbe
    go_wp2
    go_ret
    exact ⟨ret_bool hb'.out.symm, hbe'.out⟩
end Go.Proofs.Yteagmkhpfmiaiaa
