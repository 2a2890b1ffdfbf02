/-
  Contracts of the program's TracesValid and TraceFollows. No condition but lengths below 2^40.
-/
import Derived.Test.YtdhafappclcijaaTrC
import Derived.Test.YtdhafappclcijaaTrE
import Derived.Test.YtdhafappclcijaaKp
import Derived.Deep.RegionLaw
import Derived.Deep.DeepCutAuto
namespace Go.Proofs.Ytdhafappclcijaa
open Go.RowKit
set_option linter.unusedVariables false
set_option linter.unusedSimpArgs false

theorem RdI.own_size {w : World} {B n : Nat} {A : Option Addr} {zs : List Int} (h : RdI w B A n zs) : RdI w w.heap.size A n zs := by
  refine ⟨h.1, fun hn => ?_⟩
  obtain ⟨ad, e, hb, hc⟩ := h.2 hn
  have hl := h.len
  have h0 := hc 0 _ (List.getElem?_eq_getElem (show 0 < (ints zs).length by simp [ints]; omega))
  have := World.block_lt_of_cell? w _ h0
  rw [block_of_add] at this
  exact ⟨ad, e, this, hc⟩

theorem RdT.own_size {w : World} {B n : Nat} {A : Option Addr} {zss : List (List Int)} (h : RdT w B A n zss) : RdT w w.heap.size A n zss := by
  refine ⟨h.1, fun hn => ?_⟩
  obtain ⟨ad, e, hb, hc⟩ := h.2 hn
  have hl := h.1
  obtain ⟨A0, c0, h0, -⟩ := hc 0 zss[0] (List.getElem?_eq_getElem (by omega))
  have := World.block_lt_of_cell? w _ h0
  rw [block_of_add] at this
  refine ⟨ad, e, this, fun i zs hz => ?_⟩
  obtain ⟨Ai, ci, h1, h2, h3⟩ := hc i zs hz
  exact ⟨Ai, ci, h1, RdI.own_size h2, h3⟩

set_option maxHeartbeats 400000 in
theorem messageExists_t (n : Int) (w : World) :
    Calls Try.prog 49 #[.int .i64 n] w fun e w' => e = .returned (.bool (inB n 0 11)) ∧ w = w' := by
  go_enter Try.func49, Try.ntmps49
  go_wp2
  all_goals go_ret
  · exact ⟨ret_bool (by simp [inB, *]; omega), rfl⟩
  · exact ⟨ret_bool (by simp [inB, *]; omega), rfl⟩

theorem messageExists_tas {n : Int} {r : Bool} (h : inB n 0 11 = r) (w : World) : Calls Try.prog 49 #[.int .i64 n] w fun e w' => e = .returned (.bool r) ∧ w = w' := by
  subst h; exact messageExists_t n w

/-- twelve flags -/
abbrev fdC (F : Nat → Bool) : Array Value := #[.bool (F 0), .bool (F 1), .bool (F 2), .bool (F 3), .bool (F 4), .bool (F 5), .bool (F 6), .bool (F 7), .bool (F 8), .bool (F 9), .bool (F 10), .bool (F 11)]

theorem twelve' {k : Nat} (h : k < 12) : k = 0 ∨ k = 1 ∨ k = 2 ∨ k = 3 ∨ k = 4 ∨ k = 5 ∨ k = 6 ∨ k = 7 ∨ k = 8 ∨ k = 9 ∨ k = 10 ∨ k = 11 := by omega

theorem fdC_get {F : Nat → Bool} {k : Nat} (hk : k < 12) : (fdC F)[k]? = some (.bool (F k)) := by
  rcases twelve' hk with rfl | rfl | rfl | rfl | rfl | rfl | rfl | rfl | rfl | rfl | rfl | rfl <;> rfl

theorem fdC_set {F G : Nat → Bool} {k : Nat} (hk : k < 12) (hG : ∀ j, G j = if j = k then true else F j) : (fdC F).setIfInBounds k (.bool true) = fdC G := by
  rcases twelve' hk with rfl | rfl | rfl | rfl | rfl | rfl | rfl | rfl | rfl | rfl | rfl | rfl <;> simp [fdC, hG]

theorem trB_take {zs : List Int} {k : Nat} {z : Int} (hz : zs[k]? = some z) (h : trB (zs.take k) = true) (hg : inB z 0 11 = true) (hh : hasB (zs.take k) z = false) : trB (zs.take (k + 1)) = true := by
  rw [take_snocI hz, trB_snoc]
  exact ⟨h, inT_true.1 hg, hasB_no.1 hh⟩
/-- the numbers seen -/
def seB (zs : List Int) (j k : Nat) : Bool := hasB (zs.take j) (k : Int)

theorem seB_succ {zs : List Int} {j q : Nat} (hz : zs[j]? = some (q : Int)) (k : Nat) : seB zs (j + 1) k = if k = q then true else seB zs j k := by
  unfold seB hasB
  rw [take_snocI hz]
  by_cases e : k = q
  · subst e; simp
  · have : ¬ ((k : Int) = (q : Int)) := by omega
    simp [e, this]

set_option maxHeartbeats 2000000 in
theorem traceValid_any {B n c : Nat} {A : Option Addr} {zs : List Int} (w : World) (hr : RdI w B A n zs) (hn : n < 1099511627776) :
    Calls Try.prog 37 #[.slice A n c] w fun e w' => e = .returned (.bool (trB zs)) ∧ Below w.heap.size w w' := by
  have hl' := hid hr.len
  obtain ⟨W0, hW0⟩ : ∃ W0, w.alloc (.cells (fdC (seB zs 0)) 60) = W0 := ⟨_, rfl⟩
  have hB0 := hid (show Below w.heap.size w W0 by rw [← hW0]; exact below1 w _)
  have hF0 := hid (show Cs W0 w.heap.size 60 (fdC (seB zs 0)) by rw [← hW0]; exact Cs.new w _ _)
  have hr' := hid (RdI.own_size hr)
  have hW0' := hid hW0
  clear hr hW0
  go_enter Try.func37, Try.ntmps37
  go_upto_region 2 with (fail)
  rw [show (w.alloc (.cells #[.bool false, .bool false, .bool false, .bool false, .bool false, .bool false, .bool false, .bool false, .bool false, .bool false, .bool false, .bool false] 60)) = W0 from hW0'.out]
  clear hW0'
  go_wp2
  go_loopw [8] (fun i wr => ∃ k : Nat, k ≤ n ∧ i = .int .i64 k ∧ Hid (Cs wr w.heap.size 60 (fdC (seB zs k))) ∧ Hid (Below w.heap.size w wr) ∧ Hid (trB (zs.take k) = true)) (fun i _ => n - (intOf i).toNat)
  case atStart => exact ⟨0, Nat.zero_le _, rfl, hF0, hB0, hid rfl⟩
  case round =>
    clear hF0 hB0
    obtain ⟨k, hk, rfl, hF, hB, hall⟩ := hrel
    by_cases hlt : k < n
    · obtain ⟨ad, z, rfl, hz, hcz⟩ := RdI.at' (Reads.below hr'.out hB.out) hlt
      have i0 : (0 : Int) ≤ (k : Int) := by omega
      have i1 : (k : Int) < (n : Int) := by omega
      have hzg := hid (getD_of (by rw [hl'.out]; exact hlt) hz.out)
      clear hz
      cases hg : inB z 0 11 with
      | false =>
        have hno := hid (trB_bad hzg.out (.inl hg))
        have hg' := hid hg
        clear hg
        go_wp2_with (go_at_call 49; (with_reducible refine (messageExists_tas hg'.out _).mono ?_); rintro e w1 ⟨rfl, rfl⟩)
        go_ret
        exact ⟨ret_bool hno.out.symm, hB.out⟩
      | true =>
        have hg' := hid hg
        obtain ⟨q, rfl, hq⟩ : ∃ q : Nat, z = (q : Int) ∧ q < 12 := ⟨z.toNat, by have := inT_true.1 hg; omega, by have := inT_true.1 hg; omega⟩
        have q0 : (0 : Int) ≤ (q : Int) := by omega
        have q1 : (q : Int) < 12 := by omega
        have hc : wr.cell? ⟨w.heap.size, q, none⟩ = some (.bool (seB zs k q)) := by rw [hF.out.cell]; exact fdC_get hq
        have hf := hF.out.frozen q
        cases hh : seB zs k q with
        | true =>
          have hno := hid (trB_bad hzg.out (.inr hh))
          rw [hh] at hc
          clear hg hh
          go_wp2_with (go_at_call 49; (with_reducible refine (messageExists_tas hg'.out _).mono ?_); rintro e w1 ⟨rfl, rfl⟩)
          go_ret
          exact ⟨ret_bool hno.out.symm, hB.out⟩
        | false =>
          have hnx := hid (trB_take hzg.out hall.out hg hh)
          rw [hh] at hc
          have hF2 := hF.out.set q (.bool true)
          rw [fdC_set hq (seB_succ hzg.out)] at hF2
          replace hF2 := hid hF2
          have hB2 := hid (hB.out.setCell (p := ⟨w.heap.size, q, none⟩) (Nat.le_refl _) (.bool true))
          clear hg hh hF hB hall
          go_wp2_with (go_at_call 49; (with_reducible refine (messageExists_tas hg'.out _).mono ?_); rintro e w1 ⟨rfl, rfl⟩)
          go_roundw
          case rel => exact ⟨k + 1, by omega, by go_num, hF2, hB2, hnx⟩
          case measure => simp [intOf]; omega
    · have hfin := hid (show trB zs = true by
        have := hall.out
        rwa [List.take_of_length_le (by rw [hl'.out]; omega)] at this)
      go_wp2
      go_ret
      exact ⟨ret_bool hfin.out.symm, hB.out⟩

theorem traceValid_as {B n c : Nat} {A : Option Addr} {zs : List Int} {r : Bool} (h : trB zs = r) (w : World) (hr : RdI w B A n zs) (hn : n < 1099511627776) :
    Calls Try.prog 37 #[.slice A n c] w fun e w' => e = .returned (.bool r) ∧ Below w.heap.size w w' := by
  subst h; exact traceValid_any w hr hn

set_option maxHeartbeats 2000000 in
theorem TracesValid_impl {B n c : Nat} {A : Option Addr} {zss : List (List Int)} (w : World) (hr : RdT w B A n zss) (hn : n < 1099511627776) (hs : ShT zss) :
    Calls Try.prog 27 #[.slice A n c] w fun e w' => e = .returned (.bool (trsB zss)) ∧ Below w.heap.size w w' := by
  have hl' := hid hr.1
  have hr' := hid (RdT.own_size hr)
  have hs' := hid hs
  clear hr hs
  by_cases h6 : n ≤ 6
  · have h6' : ¬ ((6 : Int) < (n : Int)) := by omega
    go_enter Try.func27, Try.ntmps27
    go_wp2
    go_loopw [10] (fun i wr => ∃ k : Nat, k ≤ n ∧ i = .int .i64 k ∧ Hid (Below w.heap.size w wr) ∧ Hid ((zss.take k).all trB = true)) (fun i _ => n - (intOf i).toNat)
    case atStart => exact ⟨0, Nat.zero_le _, rfl, hid (Below.refl _ _), hid rfl⟩
    case round =>
      obtain ⟨k, hk, rfl, hq, hall⟩ := hrel
      by_cases hlt : k < n
      · obtain ⟨ad, Ai, m, ci, zs, rfl, hz, hm, hb, hc, hri, hmc, hci⟩ := (hr'.out.below hq.out).at_ hlt
        have i0 : (0 : Int) ≤ (k : Int) := by omega
        have i1 : (k : Int) < (n : Int) := by omega
        have hml : m < 1099511627776 := by rw [← hm.out]; exact hs'.out _ (List.mem_of_getElem? hz.out)
        cases ht : trB zs with
        | false =>
          have hno := hid (trsB_bad hz.out ht)
          have ht' := hid ht
          clear ht
          go_wp2_with fail
          refine (traceValid_as ht'.out _ hri.out hml).mono ?_
          rintro e w1 ⟨rfl, hq1⟩
          have hq2 := hid (hq.out.trans (hq1.mono hq.out.size))
          clear hq1
          go_wp2
          go_ret
          exact ⟨ret_bool hno.out.symm, hq2.out⟩
        | true =>
          have hnx := hid (all_take_snoc hz.out hall.out ht)
          have ht' := hid ht
          clear ht
          go_wp2_with fail
          refine (traceValid_as ht'.out _ hri.out hml).mono ?_
          rintro e w1 ⟨rfl, hq1⟩
          have hq2 := hid (hq.out.trans (hq1.mono hq.out.size))
          clear hq1
          go_wp2
          go_roundw
          case rel => exact ⟨k + 1, by omega, by go_num, hq2, hnx⟩
          case measure => simp [intOf]; omega
      · have hfin := hid (show trsB zss = true by
          have := hall.out
          rw [List.take_of_length_le (by rw [hl'.out]; omega)] at this
          rw [trsB, this, Bool.true_and, hl'.out]
          simp; omega)
        go_wp2
        go_ret
        exact ⟨ret_bool hfin.out.symm, hq.out⟩
  · have h6' : (6 : Int) < (n : Int) := by omega
    have hno := hid (show trsB zss = false by
      cases h : trsB zss with
      | false => rfl
      | true => have := (trsB_true.1 h).2; rw [hl'.out] at this; omega)
    go_enter Try.func27, Try.ntmps27
    go_wp2
    go_ret
    exact ⟨ret_bool hno.out.symm, Below.refl _ _⟩

theorem TracesValid_ias {B n c : Nat} {A : Option Addr} {zss : List (List Int)} {r : Bool} (h : trsB zss = r) (w : World) (hr : RdT w B A n zss) (hn : n < 1099511627776) (hs : ShT zss) :
    Calls Try.prog 27 #[.slice A n c] w fun e w' => e = .returned (.bool r) ∧ Below w.heap.size w w' := by
  subst h; exact TracesValid_impl w hr hn hs

set_option maxHeartbeats 1000000 in
theorem Index_at {B n c q : Nat} {A : Option Addr} {zs : List Int} {z : Int} (w : World) (hr : RdI w B A n zs) (hn : n < 1099511627776) (hq : zs[q]? = some z) (hno : ∀ j, j < q → zs[j]? ≠ some z) :
    Calls Try.prog 38 #[.slice A n c, .int .i64 z] w fun e w' => e = .returned (.int .i64 q) ∧ w = w' := by
  have hl' := hid hr.len
  have hr' := hid hr
  have hqn : q < n := by rw [← hr.len]; exact (List.getElem?_eq_some_iff.1 hq).1
  have hq' := hid hq
  have hno' := hid hno
  clear hr hq hno
  go_enter Try.func38, Try.ntmps38
  go_wp2
  go_loop [8] (fun i => ∃ k : Nat, k ≤ q ∧ i = .int .i64 k) (fun i => n - (intOf i).toNat)
  case atStart => exact ⟨0, Nat.zero_le _, rfl⟩
  case round =>
    obtain ⟨k, hk, rfl⟩ := hrel
    have hlt : k < n := by omega
    obtain ⟨ad, y, rfl, hy, hcy⟩ := RdI.at' hr'.out hlt
    have i0 : (0 : Int) ≤ (k : Int) := by omega
    have i1 : (k : Int) < (n : Int) := by omega
    have hyg := getD_of (by rw [hl'.out]; exact hlt) hy.out
    by_cases e : y = z
    · subst e
      have e2 : k = q := by
        rcases Nat.lt_or_ge k q with h | h
        · exact absurd hyg (hno'.out k h)
        · omega
      subst e2
      clear hyg hy
      go_wp2
      go_ret
      exact ⟨rfl, rfl⟩
    · have e2 : (z == y) = false := by rw [beq_eq_false_iff_ne]; exact fun h => e h.symm
      have e3 : k ≠ q := fun h => by
        subst h
        rw [hq'.out] at hyg
        injection hyg with hyg
        exact e hyg.symm
      clear hyg hy
      have e3' := hid e3
      clear e3 e
      go_wp2
      go_round
      case rel => exact ⟨k + 1, by have := e3'.out; omega, by go_num⟩
      case measure => simp [intOf]; omega

set_option maxHeartbeats 1000000 in
theorem Index_no {B n c : Nat} {A : Option Addr} {zs : List Int} {z : Int} (w : World) (hr : RdI w B A n zs) (hn : n < 1099511627776) (hno : z ∉ zs) :
    Calls Try.prog 38 #[.slice A n c, .int .i64 z] w fun e w' => e = .returned (.int .i64 (-1)) ∧ w = w' := by
  have hl' := hid hr.len
  have hr' := hid hr
  have hno' := hid hno
  clear hr hno
  go_enter Try.func38, Try.ntmps38
  go_wp2
  go_loop [8] (fun i => ∃ k : Nat, k ≤ n ∧ i = .int .i64 k) (fun i => n - (intOf i).toNat)
  case atStart => exact ⟨0, Nat.zero_le _, rfl⟩
  case round =>
    obtain ⟨k, hk, rfl⟩ := hrel
    by_cases hlt : k < n
    · obtain ⟨ad, y, rfl, hy, hcy⟩ := RdI.at' hr'.out hlt
      have i0 : (0 : Int) ≤ (k : Int) := by omega
      have i1 : (k : Int) < (n : Int) := by omega
      have hyg := getD_of (by rw [hl'.out]; exact hlt) hy.out
      have e2 : (z == y) = false := by
        rw [beq_eq_false_iff_ne]
        intro h
        subst h
        exact hno'.out (List.mem_of_getElem? hyg)
      clear hyg hy
      go_wp2
      go_round
      case rel => exact ⟨k + 1, by omega, by go_num⟩
      case measure => simp [intOf]; omega
    · have hkn : ¬ ((k : Int) < (n : Int)) := by omega
      go_wp2
      go_ret
      exact ⟨rfl, rfl⟩
/-- a slice from l on: its address where nothing is left is not looked at -/
theorem slice_fromI (A : Option Addr) (n c l : Nat) (x : Int) (hx : x = (l : Int)) (hl : l ≤ n) :
    ∃ A', (∀ W, (Instr.sliceAt 25 (.slice A n c) (some (.int .i64 x)) none none).run Try.prog W = .ok (.slice A' (n - l) (c - l)) W) ∧ (n ≤ c → ∀ (w : World) (B : Nat) (xs : List Value), Reads w B 1 A n xs → Reads w B 1 A' (n - l) (xs.drop l)) := by
  subst hx
  refine ⟨if c = l then A else A.map (·.add (l * 1)), fun W => ?_, fun hnc w B xs h => ?_⟩
  · rw [run_sliceAt_slice (P := Try.prog) W 25 _ _ _ _ (by kernel_rfl), run_slice_l (P := Try.prog) W 25 _ _ _ (by kernel_rfl) _ _ (by omega) (by omega)]
    rw [show (sizeOf (Try.prog.elem 25)).run Try.prog W = .ok 1 W from by kernel_rfl]
    simp [Result.andThen, sliced]
  · have hlen := h.1
    refine ⟨by rw [List.length_drop]; omega, fun hp => ?_⟩
    obtain ⟨ad, e, hb, hc⟩ := h.2 (by omega)
    subst e
    refine ⟨ad.add l, by rw [if_neg (by omega)]; simp, by rw [block_of_add]; exact hb, fun j u hj => ?_⟩
    rw [List.getElem?_drop] at hj
    rw [add_of_add]
    exact hc _ u hj

theorem first_at {z : Int} : ∀ {os : List Int}, z ∈ os → ∃ q, os[q]? = some z ∧ (∀ j, j < q → os[j]? ≠ some z) ∧ os = os.take q ++ z :: os.drop (q + 1) ∧ z ∉ os.take q
  | [], h => by cases h
  | x :: os, h => by
    by_cases e : x = z
    · subst e
      exact ⟨0, rfl, fun j hj => by omega, rfl, by simp⟩
    · have hm : z ∈ os := by
        rcases List.mem_cons.1 h with h | h
        · exact absurd h.symm e
        · exact h
      obtain ⟨q, h1, h2, h3, h4⟩ := first_at hm
      refine ⟨q + 1, by simpa using h1, fun j hj => ?_, by rw [List.take_succ_cons, List.drop_succ_cons, List.cons_append, ← h3], ?_⟩
      · cases j with
        | zero => simpa using e
        | succ j => simpa using h2 j (by omega)
      · rw [List.take_succ_cons]
        intro hx
        rcases List.mem_cons.1 hx with hx | hx
        · exact e hx.symm
        · exact h4 hx

theorem sub_first {t os pre suf : List Int} {z : Int} (he : os = pre ++ z :: suf) (hz : z ∉ pre) : (z :: t).Sublist os ↔ t.Sublist suf := by
  subst he
  constructor
  · intro h
    induction pre with
    | nil =>
      cases h with
      | cons _ h => exact (List.sublist_cons_self z t).trans h
      | cons_cons _ h => exact h
    | cons x pre ih =>
      have hx : x ≠ z := fun e => hz (by simp [e])
      cases h with
      | cons _ h => exact ih (fun h => hz (by simp [h])) h
      | cons_cons _ h => exact absurd rfl hx
  · intro h
    exact (List.Sublist.cons_cons z h).trans (List.sublist_append_right _ _)

theorem ints_drop (zs : List Int) (l : Nat) : (ints zs).drop l = ints (zs.drop l) := by simp [ints]

set_option maxHeartbeats 4000000 in
theorem TraceFollows_impl {B B' n c m d : Nat} {A A' : Option Addr} {zs os : List Int} (w : World) (hr : RdI w B A n zs) (hk : RdI w B' A' m os) (hn : n < 1099511627776) (hm : m < 1099511627776) (hnc : n ≤ c) (hmd : m ≤ d) (hc : c ≤ 9223372036854775807) (hd : d ≤ 9223372036854775807) :
    Calls Try.prog 19 #[.slice A n c, .slice A' m d] w fun e w' => e = .returned (.bool (foR zs os)) ∧ Below w.heap.size w w' := by
  have hl' := hid hr.len
  have hr' := hid (RdI.own_size hr)
  have hk' := hid (RdI.own_size hk)
  clear hr hk
  cases hv : trB zs with
  | false =>
    have hno := hid (show foR zs os = false by unfold foR; rw [hv]; rfl)
    have hv' := hid hv
    clear hv
    go_enter Try.func19, Try.ntmps19
    go_wp2_with (go_at_call 37; (with_reducible refine (traceValid_as hv'.out _ hr'.out hn).mono ?_); rintro e w1 ⟨rfl, hq1⟩)
    go_ret
    exact ⟨ret_bool hno.out.symm, hq1⟩
  | true =>
    cases hu : trB os with
    | false =>
      have hno := hid (show foR zs os = false by unfold foR; rw [hv, hu]; rfl)
      have hv' := hid hv
      have hu' := hid hu
      clear hv hu
      go_enter Try.func19, Try.ntmps19
      go_wp2_with (fail)
      refine (traceValid_as hv'.out _ hr'.out hn).mono ?_
      rintro e w1 ⟨rfl, hq1⟩
      have hk1 := hid (Reads.below hk'.out hq1)
      go_wp2_with (fail)
      refine (traceValid_as hu'.out _ hk1.out hm).mono ?_
      rintro e w2 ⟨rfl, hq2⟩
      have hq3 := hid (hq1.trans (hq2.mono hq1.size))
      go_wp2
      go_ret
      exact ⟨ret_bool hno.out.symm, hq3.out⟩
    | true =>
      have hfo := hid (show foR zs os = zs.isSublist os by unfold foR; rw [hv, hu]; rfl)
      have hv' := hid hv
      have hu' := hid hu
      clear hv hu
      go_enter Try.func19, Try.ntmps19
      go_wp2_with (fail)
      refine (traceValid_as hv'.out _ hr'.out hn).mono ?_
      rintro e w1 ⟨rfl, hq1⟩
      have hk1 := hid (Reads.below hk'.out hq1)
      go_wp2_with (fail)
      refine (traceValid_as hu'.out _ hk1.out hm).mono ?_
      rintro e w2 ⟨rfl, hq2⟩
      have hq3 := hid (hq1.trans (hq2.mono hq1.size))
      have hk3 := hid (Reads.below hk'.out hq3.out)
      have hr3 := hid (Reads.below hr'.out hq3.out)
      clear hk1 hq1 hq2 hk' hr'
      go_wp2
      go_loop [5, 20] (fun p i => ∃ (k M D : Nat) (A1 : Option Addr) (rs : List Int), k ≤ n ∧ M ≤ m ∧ M ≤ D ∧ D ≤ d ∧ i = .int .i64 k ∧ p = .slice A1 M D ∧ Hid (RdI w2 w.heap.size A1 M rs) ∧ Hid (zs.Sublist os ↔ (zs.drop k).Sublist rs)) (fun _ i => n - (intOf i).toNat)
      case atStart => exact ⟨0, m, d, A', os, by omega, by omega, hmd, by omega, rfl, rfl, hk3, hid Iff.rfl⟩
      case round =>
        clear hk3
        obtain ⟨k, M, D, A1, rs, hkn, hMm, hMD, hDd, rfl, rfl, hR, hinv⟩ := hrel
        by_cases hlt : k < n
        · obtain ⟨ad, z, rfl, hz, hcz⟩ := RdI.at' hr3.out hlt
          have i0 : (0 : Int) ≤ (k : Int) := by omega
          have i1 : (k : Int) < (n : Int) := by omega
          have hzd := hid (drop_at (getD_of (by rw [hl'.out]; exact hlt) hz.out))
          clear hz
          have hMl : M < 1099511627776 := by omega
          by_cases hmem : z ∈ rs
          · obtain ⟨q, h1, h2, h3, h4⟩ := first_at hmem
            have hqM : q < M := by rw [← RdI.len hR.out]; exact (List.getElem?_eq_some_iff.1 h1).1
            have hix := hid (fun (c : Nat) => Index_at (c := c) w2 hR.out hMl h1 h2)
            have hnx := hid (show zs.Sublist os ↔ (zs.drop (k + 1)).Sublist (rs.drop (q + 1)) from by
              rw [hinv.out, hzd.out]; exact sub_first h3 h4)
            obtain ⟨A2, hsl, hrd⟩ := slice_fromI A1 M D (q + 1) ((q : Int) + 1) (by omega) (by omega)
            have hR2 := hid (show RdI w2 w.heap.size A2 (M - (q + 1)) (rs.drop (q + 1)) from by
              have := hrd hMD w2 _ _ hR.out
              rw [ints_drop] at this
              exact this)
            have q0 : ¬ ((q : Int) < 0) := by omega
            have q1 : IntKind.i64.wrap ((q : Int) + 1) = (q : Int) + 1 := IntWalk.i64_in _ (by omega)
            clear h1 h2 h3 h4 hmem hrd hR hinv
            go_wp2_with (fail)
            refine (hix.out D).mono ?_
            rintro e w3 ⟨rfl, rfl⟩
            go_wp2
            go_round
            case rel => exact ⟨k + 1, M - (q + 1), D - (q + 1), A2, rs.drop (q + 1), by omega, by omega, by omega, by omega, by go_num, rfl, hR2, hnx⟩
            case measure => simp [intOf]; omega
          · have hno := hid (show foR zs os = false from by
              rw [hfo.out]
              cases hs : zs.isSublist os with
              | false => rfl
              | true =>
                have := hinv.out.1 (List.isSublist_iff_sublist.1 hs)
                rw [hzd.out] at this
                exact absurd (this.subset (List.mem_cons_self)) hmem)
            have hix := hid (fun (c : Nat) => Index_no (c := c) w2 hR.out hMl hmem)
            clear hmem
            go_wp2_with (fail)
            refine (hix.out D).mono ?_
            rintro e w3 ⟨rfl, rfl⟩
            go_wp2
            go_ret
            exact ⟨ret_bool hno.out.symm, hq3.out⟩
        · have hyes := hid (show foR zs os = true from by
            rw [hfo.out, List.isSublist_iff_sublist, hinv.out, List.drop_of_length_le (by rw [hl'.out]; omega)]
            exact List.nil_sublist _)
          have hk1 : ¬ ((k : Int) < (n : Int)) := by omega
          go_wp2
          go_ret
          exact ⟨ret_bool hyes.out.symm, hq3.out⟩
end Go.Proofs.Ytdhafappclcijaa
