/-
  Contracts of the exact laws' helpers over slices of slices of ints: szIntS, szIntSS, toIntSS, eqIntSS, markIntSS. No condition but lengths below 2^40.
-/
import Derived.Test.YthnkilacknoklaaOwnL
import Derived.Test.YthnkilacknoklaaExB
namespace Go.Proofs.Ythnkilacknoklaa
open Go.RowKit

set_option maxHeartbeats 400000 in
theorem szIntS_any {n c : Nat} {A : Option Addr} (l : Int) (w : World) (hn : n ≤ 9223372036854775807) (h0 : 0 ≤ l) (h1 : l ≤ 1048576) :
    Calls Try.prog 47 #[.slice A n c, .int .i64 l] w fun e w' => (∃ r : Int, e = .returned (.int .i64 r) ∧ -1 ≤ r ∧ r ≤ 1048576 ∧ (0 ≤ r → n ≤ 1048576)) ∧ w = w' := by
  by_cases h : (n : Int) ≤ l
  · go_enter Try.func47, Try.ntmps47
    go_wp2
    go_ret
    exact ⟨⟨_, rfl, by omega, by omega, fun _ => by omega⟩, rfl⟩
  · go_enter Try.func47, Try.ntmps47
    go_wp2
    go_ret
    exact ⟨⟨-1, rfl, by omega, by omega, fun h => by omega⟩, rfl⟩

def SzPost (n : Nat) (zss : List (List Int)) (w : World) (e : Ending) (w' : World) : Prop :=
  ∃ r : Int, e = .returned (.int .i64 r) ∧ -1 ≤ r ∧ r ≤ 1048576 ∧ (0 ≤ r → n ≤ 1048576 ∧ ∀ i, i < n → (zss.getD i []).length ≤ 1048576) ∧ w = w'

set_option maxHeartbeats 1000000 in
theorem szIntSS_any {B n c : Nat} {A : Option Addr} {zss : List (List Int)} (w : World) (hr : RdL w B A n zss) (hn : n ≤ 9223372036854775807) (hi : ∀ i, i < n → (zss.getD i []).length ≤ 9223372036854775807) :
    Calls Try.prog 37 #[.slice A n c, .int .i64 1048576] w (SzPost n zss w) := by
  have hr' := hid hr
  have hi' := hid hi
  clear hr hi
  by_cases hbig : n ≤ 1048576
  · go_enter Try.func37, Try.ntmps37
    go_wp2
    go_loop [1, 5] (fun x i => ∃ (k : Nat) (l : Int), k ≤ n ∧ i = .int .i64 k ∧ x = .int .i64 l ∧ 0 ≤ l ∧ l ≤ 1048576 ∧ Hid (∀ j, j < k → (zss.getD j []).length ≤ 1048576)) (fun _ i => n - (intOf i).toNat)
    case atStart => exact ⟨0, 1048576 - n, by omega, rfl, rfl, by omega, by omega, hid (fun j h => by omega)⟩
    case round =>
      obtain ⟨k, l, hk, rfl, rfl, hl0, hl1, hall⟩ := hrel
      by_cases hlt : k < n
      · obtain ⟨ad, Ai, m, ci, zs, rfl, hz, hm, hc, hri⟩ := RdL.at' hr'.out hlt
        have hmb : m ≤ 9223372036854775807 := by
          have := hi'.out k hlt
          rw [hz.out, hm.out] at this; exact this
        clear hri
        go_wp2_with fail
        refine (szIntS_any l w hmb hl0 hl1).mono ?_
        rintro e w' ⟨⟨r, rfl, hr0, hr1, hrn⟩, rfl⟩
        by_cases hneg : 0 ≤ r
        · have hmk := hrn hneg
          clear hrn
          go_wp2
          go_round
          case rel => exact ⟨k + 1, r, by omega, by go_num, rfl, hneg, hr1, hid (fun j hj => by
              by_cases e : j = k
              · subst e; rw [hz.out, hm.out]; exact hmk
              · exact hall.out j (by omega))⟩
          case measure => simp [intOf]; omega
        · clear hrn
          go_wp2
          go_ret
          exact ⟨-1, rfl, by omega, by omega, fun h => by omega, rfl⟩
      · have hkn := hid (show k = n by omega)
        go_wp2
        go_ret
        exact ⟨l, rfl, by omega, hl1, fun _ => ⟨hbig, fun i hi => hall.out i (by rw [hkn.out]; exact hi)⟩, rfl⟩
  · go_enter Try.func37, Try.ntmps37
    go_wp2
    go_ret
    exact ⟨-1, rfl, by omega, by omega, fun h => by omega, rfl⟩

/-- an owned slice of owned slices that share no block; everything lies below hi -/
structure Dis (w : World) (lo hi : Nat) (v : Value) (vals : List Value) (zss : List (List Int)) : Prop where
  len : vals.length = zss.length
  outer : OwV w lo v vals
  inner : ∀ i, i < zss.length → OwI w lo (vals.getD i undef) (zss.getD i [])
  apart : ∀ i j, i < j → j < zss.length → ∀ g, (vals.getD i undef).ownBlock = some g → (vals.getD j undef).ownBlock ≠ some g
  top : ∀ g, v.ownBlock = some g → g < hi
  tops : ∀ i, i < zss.length → ∀ g, (vals.getD i undef).ownBlock = some g → g < hi

def LvD (w : World) (lo hi : Nat) (v : Value) (zss : List (List Int)) : Prop := ∃ vals, Dis w lo hi v vals zss ∧ hi ≤ w.heap.size

theorem LvD.ll {w : World} {lo hi : Nat} {v : Value} {zss : List (List Int)} (h : LvD w lo hi v zss) : OwLL w lo v zss := by
  obtain ⟨vals, hd, _⟩ := h
  exact ⟨vals, hd.len, hd.outer, hd.inner⟩

theorem Dis.below {w w' : World} {lo hi : Nat} {v : Value} {vals : List Value} {zss : List (List Int)} (h : Dis w lo hi v vals zss) (hb : ∀ g, g < hi → w'.heap[g]? = w.heap[g]?) : Dis w' lo hi v vals zss :=
  ⟨h.len, ownV_of_block h.outer fun g hg => hb g (h.top g hg), fun i hi' => own_of_block (h.inner i hi') fun g hg => hb g (h.tops i hi' g hg), h.apart, h.top, h.tops⟩

theorem LvD.step {w w' : World} {lo hi : Nat} {v : Value} {zss : List (List Int)} (h : LvD w lo hi v zss) (hb : Below w.heap.size w w') : LvD w' lo hi v zss := by
  obtain ⟨vals, hd, hs⟩ := h
  exact ⟨vals, hd.below fun g hg => hb.block g (by omega), Nat.le_trans hs hb.size⟩

theorem LvD.quiet {w w' : World} {lo hi : Nat} {v : Value} {zss : List (List Int)} (h : LvD w lo hi v zss) (hq : Qt w w') : LvD w' lo hi v zss := by
  obtain ⟨q, rfl⟩ := hq
  obtain ⟨vals, hd, hs⟩ := h
  exact ⟨vals, hd.below fun _ _ => rfl, hs⟩

set_option maxHeartbeats 1000000 in
theorem toIntSS_any {n c : Nat} {A : Option Addr} {zss : List (List Int)} (w : World) (hr : RdL w w.heap.size A n zss) (hn : n < 1099511627776) (hsh : Short zss) :
    Calls Try.prog 39 #[.slice A n c] w fun e w' => ∃ A' c', e = .returned (.slice A' n c') ∧ LvD w' w.heap.size w'.heap.size (.slice A' n c') zss ∧ Below w.heap.size w w' := by
  obtain ⟨i0, hi, hz0, hz1, hz2⟩ := info_parts info_ints
  have hl' := hid hr.1
  have hr' := hid hr
  have hsh' := hid hsh
  clear hr hsh
  go_enter Try.func39, Try.ntmps39
  go_wp2_with (refine wpList_make_full (P := Try.prog) _ rfl _ _ 57 rfl w.heap.size 22 i0 (.slice none 0 0) 1 Try.underlying57 hi hz0 hz1 .i64 .i64 _ _ n rfl rfl rfl rfl (by rw [hz2]; omega) (by unfold maxLen; omega) (Nat.le_refl _) ?_; intro w1 hown hgr)
  have hb1 := hid ((Below.refl w.heap.size w).grown hgr (Nat.le_refl _) (fun k h => by cases h))
  have ho1 : w1.ownsRow w.heap.size 22 1 (.slice (some ⟨w.heap.size, 0, none⟩) n n) n (List.replicate n (.slice none 0 0)) := by
    have e : (madeCells (Value.slice none 0 0).cells (n * 1)).toList = List.replicate n (.slice none 0 0) := by
      rw [Nat.mul_one, show (Value.slice none 0 0).cells = #[Value.slice none 0 0] from rfl, toList_madeCells_one]
    rw [← e]; exact hown
  have ho1' := hid ho1
  clear ho1 hown hgr hi hz0 hz1 hz2
  go_loopw [4] (fun i wr => ∃ (k : Nat) (vals : List Value), k ≤ n ∧ i = .int .i64 k ∧ Hid (vals.length = n) ∧ Hid (wr.ownsRow w.heap.size 22 1 (.slice (some ⟨w.heap.size, 0, none⟩) n n) n vals) ∧
      Hid (∀ j, j < k → OwI wr w.heap.size (vals.getD j undef) (zss.getD j [])) ∧ Hid (∀ i j, i < j → j < k → ∀ g, (vals.getD i undef).ownBlock = some g → (vals.getD j undef).ownBlock ≠ some g) ∧ Below w.heap.size w wr) (fun i _ => n - (intOf i).toNat)
  case atStart => exact ⟨0, _, by omega, rfl, List.length_replicate, ho1', hid (fun j h => by omega), hid (fun i j _ h => by omega), hb1.out⟩
  case round =>
    obtain ⟨k, vals, hk, rfl, hvl, hown, hall, hdis, hbel⟩ := hrel
    by_cases hlt : k < n
    · obtain ⟨ad, Ai, m, ci, zs, rfl, hz, hm, hc, hri⟩ := RdL.at' (hr'.out.below hbel) hlt
      obtain rfl : zs.length = m := hm.out
      have hml : zs.length < 1099511627776 := by
        have := hsh'.out k (by rw [hl'.out]; exact hlt)
        rw [hz.out] at this; exact this
      have hsz := hbel.size
      have hri' := hid (Reads.more hri hsz)
      clear hri
      go_wp2_with fail
      refine (toIntS_any wr hri'.out hml).mono ?_
      rintro e w2 ⟨v2, rfl, ho2, hb2⟩
      obtain ⟨A2, c2, rfl, _⟩ := ho2.rd (Nat.le_refl _)
      have hg0 : (Value.slice (some ⟨w.heap.size, 0, none⟩) n n).ownBlock = some w.heap.size := rfl
      have hlt0 := (hown.out.lt _ hg0).2
      have hown2 : w2.ownsRow w.heap.size 22 1 (.slice (some ⟨w.heap.size, 0, none⟩) n n) n vals := by
        have h0 : OwV wr w.heap.size (.slice (some ⟨w.heap.size, 0, none⟩) n n) vals := by rw [OwV, hvl.out]; exact hown.out
        have h1 : OwV w2 w.heap.size (.slice (some ⟨w.heap.size, 0, none⟩) n n) vals := ownV_of_block h0 (fun g hg => by injection hg with hg; subst hg; exact hb2.block _ hlt0)
        rw [OwV, hvl.out] at h1; exact h1
      have hcell : w2.cell? ⟨w.heap.size, k, none⟩ = some (vals.getD k undef) := by
        rw [hown2.cellAt k (by omega)]
        have : k < vals.length := by rw [hvl.out]; exact hlt
        simp [this]
      have hfr : w2.frozen? ⟨w.heap.size, k, none⟩ = false := hown2.frozenAt k
      have hst := hid (hown2.stored k (.slice A2 zs.length c2))
      have hB2 := hid (hbel.trans (hb2.mono hsz))
      have hfin : Hid ((∀ j, j < k + 1 → OwI (w2.setCell ⟨w.heap.size, k, none⟩ (.slice A2 zs.length c2)) w.heap.size ((vals.set k (.slice A2 zs.length c2)).getD j undef) (zss.getD j [])) ∧
          (∀ i j, i < j → j < k + 1 → ∀ g, ((vals.set k (.slice A2 zs.length c2)).getD i undef).ownBlock = some g → ((vals.set k (.slice A2 zs.length c2)).getD j undef).ownBlock ≠ some g)) := by
        have hkl : k < vals.length := by rw [hvl.out]; exact hlt
        have same : ∀ j, j < k → (vals.set k (.slice A2 zs.length c2)).getD j undef = vals.getD j undef := by
          intro j hj
          have : k ≠ j := by omega
          simp [this]
        have new : (vals.set k (.slice A2 zs.length c2)).getD k undef = .slice A2 zs.length c2 := by simp [hkl]
        have hov : OwV w2 w.heap.size (.slice (some ⟨w.heap.size, 0, none⟩) n n) vals := by rw [OwV, hvl.out]; exact hown2
        have far : ∀ (u : Value) (us : List Int), OwI w2 w.heap.size u us → OwI (w2.setCell ⟨w.heap.size, k, none⟩ (.slice A2 zs.length c2)) w.heap.size u us := fun u us hu =>
          own_of_block hu fun g hg => Below.heap_setCell w2 _ _ g (fun e => own_ne (g := w.heap.size) hov hu hg0 (by rw [hg]; exact congrArg some e))
        refine ⟨fun j hj => ?_, fun i j hij hj g hgi hgj => ?_⟩
        · by_cases e : j = k
          · subst e
            rw [new, hz.out]
            exact far _ _ (ho2.1.more hsz)
          · rw [same j (by omega)]
            exact far _ _ (OwI.below (hall.out j (by omega)) hb2)
        · by_cases e : j = k
          · subst e
            rw [same i hij] at hgi
            rw [new] at hgj
            have h1 := ((hall.out i hij).lt g hgi).2
            have h2 := (ho2.1.lt g hgj).1
            omega
          · rw [same i (by omega)] at hgi
            rw [same j (by omega)] at hgj
            exact hdis.out i j hij (by omega) g hgi hgj
      clear hown2 ho2 hb2
      go_wp2
      go_roundw
      case rel => exact ⟨k + 1, vals.set k (.slice A2 zs.length c2), by omega, by go_num, hid (by rw [List.length_set]; exact hvl.out), hid hst.out.1, hid hfin.out.1, hid hfin.out.2, hB2.out.setCell (Nat.le_refl _) _⟩
      case measure => simp [intOf]; omega
    · have hkn : k = n := by omega
      have hfin : Hid (LvD wr w.heap.size wr.heap.size (.slice (some ⟨w.heap.size, 0, none⟩) n n) zss) := hid ⟨vals, ⟨by rw [hvl.out, hl'.out], by rw [OwV, hvl.out]; exact hown.out,
        fun i hi => hall.out i (by rw [hl'.out] at hi; omega), fun i j hij hj => hdis.out i j hij (by rw [hl'.out] at hj; omega), fun g hg => (hown.out.lt g hg).2,
        fun i hi g hg => ((hall.out i (by rw [hl'.out] at hi; omega)).lt g hg).2⟩, Nat.le_refl _⟩
      clear hkn
      go_wp2
      go_ret
      exact ⟨_, _, rfl, hfin.out, hbel⟩

/-- are two lists of lists equal? -/
def sameBB (xss yss : List (List Int)) : Bool := decide (xss = yss)

set_option maxHeartbeats 1000000 in
theorem eqIntSS_self {B B' n c d : Nat} {A A' : Option Addr} {zss : List (List Int)} (w : World) (hx : RdL w B A n zss) (hy : RdL w B' A' n zss) (hn : n < 1099511627776) (hsh : Short zss) :
    Calls Try.prog 41 #[.slice A n c, .slice A' n d] w fun e w' => e = .returned (.bool true) ∧ Qt w w' := by
  have hl' := hid hx.1
  have hx' := hid hx
  have hy' := hid hy
  have hsh' := hid hsh
  clear hx hy hsh
  have h0 : ((n : Int) != (n : Int)) = false := by simp
  go_enter Try.func41, Try.ntmps41
  go_wp2
  go_loopw [5] (fun i wr => ∃ k : Nat, k ≤ n ∧ i = .int .i64 k ∧ Qt w wr) (fun i _ => n - (intOf i).toNat)
  case atStart => exact ⟨0, Nat.zero_le _, rfl, Qt.refl _⟩
  case round =>
    obtain ⟨k, hk, rfl, hq⟩ := hrel
    by_cases hlt : k < n
    · obtain ⟨ad, Ai, m, ci, zs, rfl, hz, hm, hc, hri⟩ := RdL.at' (hx'.out.quiet hq) hlt
      obtain ⟨ad2, Ai2, m2, ci2, zs2, rfl, hz2, hm2, hc2, hri2⟩ := RdL.at' (hy'.out.quiet hq) hlt
      have e : zs2 = zs := hz2.out.symm.trans hz.out
      subst e
      obtain rfl : zs2.length = m := hm.out
      obtain rfl : zs2.length = m2 := hm2.out
      have hml : zs2.length < 1099511627776 := by
        have := hsh'.out k (by rw [hl'.out]; exact hlt)
        rw [hz.out] at this; exact this
      have h1 := hid hri
      have h2 := hid hri2
      clear hri hri2
      have hcall : ∀ q : Nat, Calls Try.prog 13 #[.slice Ai zs2.length ci, .slice Ai2 zs2.length ci2] (wr.drewN q) fun e w' => e = .returned (.bool true) ∧ Qt (wr.drewN q) w' := by
        intro q
        have := eqIntS_any (c := ci) (d := ci2) (wr.drewN q) (Reads.drewN h1.out q) (Reads.drewN h2.out q) hml hml
        rw [sameB_self] at this
        exact this
      have hcall' := hid hcall
      clear hcall
      go_wp2
      go_quiet ((go_at_call 13; exact Qt.call (hcall'.out _)))
      go_wp2
      go_roundw
      case rel => exact ⟨k + 1, by omega, by go_num, hq.drewN _⟩
      case measure => simp [intOf]; omega
    · go_wp2
      go_ret
      exact ⟨rfl, hq⟩

/-- only blocks from lo on and below hi have turned, and none is new -/
structure Only (w w' : World) (lo hi : Nat) : Prop where
  os : w'.os = w.os
  tape : w'.tape = w.tape
  output : w'.output = w.output
  size : w'.heap.size = w.heap.size
  block : ∀ k, (k < lo ∨ hi ≤ k) → w'.heap[k]? = w.heap[k]?

theorem Only.refl (w : World) (lo hi : Nat) : Only w w lo hi := ⟨rfl, rfl, rfl, rfl, fun _ _ => rfl⟩

theorem Only.below {w w' : World} {lo hi B : Nat} (h : Only w w' lo hi) (hB : B ≤ lo) : Below B w w' := ⟨h.os, h.tape, h.output, Nat.le_of_eq h.size.symm, fun k hk => h.block k (.inl (by omega))⟩

theorem Only.then_ {a b c : World} {lo hi : Nat} {row : Option Nat} (h : Only a b lo hi) (hg : b.grownBy c row) (hs : c.heap.size = b.heap.size) (hr : ∀ g, row = some g → lo ≤ g ∧ g < hi) : Only a c lo hi := by
  refine ⟨hg.os.trans h.os, hg.tape.trans h.tape, hg.output.trans h.output, hs.trans h.size, fun k hk => ?_⟩
  rw [← h.block k hk]
  by_cases hkb : k < b.heap.size
  · exact hg.block k hkb (fun e => by have := hr k e.symm; omega)
  · rw [Array.getElem?_eq_none (by omega), Array.getElem?_eq_none (by omega)]

theorem Lv.only {w w' : World} {lo hi lo2 hi2 : Nat} {v : Value} {zs : List Int} (h : Lv w lo hi v zs) (ho : Only w w' lo2 hi2) (hd : hi ≤ lo2 ∨ hi2 ≤ lo) : Lv w' lo hi v zs :=
  ⟨⟨own_of_block h.1.1 fun g hg => ho.block g (by have := (h.1.1.lt g hg).1; have := h.1.2 g hg; omega), h.1.2⟩, by rw [ho.size]; exact h.2⟩

/-- marking the k-th inner slice -/
theorem Dis.mark {w w' : World} {lo hi k : Nat} {v : Value} {vals : List Value} {zss : List (List Int)} {us : List Int} (h : Dis w lo hi v vals zss) (hk : k < zss.length)
    (hu : OwI w' lo (vals.getD k undef) us) (hg : w.grownBy w' (vals.getD k undef).ownBlock) : Dis w' lo hi v vals (zss.set k us) := by
  have hl : (zss.set k us).length = zss.length := List.length_set
  refine ⟨by rw [hl]; exact h.len, ownV_of_block h.outer fun g hgv => hg.block g (h.outer.lt g hgv).2 (fun e => own_ne h.outer (h.inner k hk) hgv e.symm), fun i hi' => ?_,
    fun i j hij hj => h.apart i j hij (by rw [hl] at hj; exact hj), h.top, fun i hi' => h.tops i (by rw [hl] at hi'; exact hi')⟩
  rw [hl] at hi'
  by_cases e : i = k
  · subst e
    have : (zss.set i us).getD i [] = us := by simp [hi']
    rw [this]; exact hu
  · have e' : k ≠ i := fun h => e h.symm
    have : (zss.set k us).getD i [] = zss.getD i [] := by simp [e']
    rw [this]
    refine own_of_block (h.inner i hi') fun g hgi => hg.block g ((h.inner i hi').lt g hgi).2 (fun e2 => ?_)
    rcases Nat.lt_or_gt_of_ne e with h1 | h1
    · exact h.apart i k h1 hk g hgi e2.symm
    · exact h.apart k i h1 hi' g e2.symm hgi

def MarkPost (lo hi : Nat) (w : World) (e : Ending) (w' : World) : Prop :=
  ∃ r : Int, e = .returned (.int .i64 r) ∧ 0 ≤ r ∧ Only w w' lo hi

set_option maxHeartbeats 1000000 in
theorem markIntSS_any {n c lo hi : Nat} {A : Option Addr} {zss : List (List Int)} (w : World) (h : LvD w lo hi (.slice A n c) zss) (hn : n ≤ 1048576) (hi' : ∀ i, i < n → (zss.getD i []).length ≤ 1048576) :
    Calls Try.prog 42 #[.slice A n c, .int .i64 1] w (MarkPost lo hi w) := by
  obtain ⟨vals, hd, hsz⟩ := h
  have hnl : vals.length = n := by
    rcases hd.outer.2 with ⟨e, h0⟩ | ⟨g, cap, cur, e, _⟩
    · injection e with _ e2 _; omega
    · injection e with _ e2 _; omega
  have hzl : zss.length = n := by rw [← hd.len]; exact hnl
  have hd' := hid hd
  have hzl' := hid hzl
  have hnl' := hid hnl
  have hin' := hid hi'
  clear hd hzl hnl hi'
  go_enter Try.func42, Try.ntmps42
  go_wp2
  go_loopw [1, 5] (fun x i wr => ∃ (k : Nat) (r : Int) (yss : List (List Int)), k ≤ n ∧ i = .int .i64 k ∧ x = .int .i64 r ∧ 0 ≤ r ∧ r ≤ 1 + (k : Int) * 1048576 ∧ Hid (yss.length = n) ∧ Hid (∀ j, (yss.getD j []).length = (zss.getD j []).length) ∧ Hid (Dis wr lo hi (.slice A n c) vals yss) ∧ Hid (Only w wr lo hi)) (fun _ i _ => n - (intOf i).toNat)
  case atStart => exact ⟨0, 1, zss, by omega, rfl, rfl, by omega, by omega, hzl', hid (fun _ => rfl), hd', hid (Only.refl _ _ _)⟩
  case round =>
    obtain ⟨k, r, yss, hk, rfl, rfl, hr0, hr1, hyl, hlen, hdis, honly⟩ := hrel
    by_cases hlt : k < n
    · have hky : k < yss.length := by rw [hyl.out]; exact hlt
      have hll : OwLL wr lo (.slice A n c) yss := ⟨vals, hdis.out.len, hdis.out.outer, hdis.out.inner⟩
      obtain ⟨A', c', e, hrd⟩ := hll.form
      have eA : A' = A := by injection e with e1; exact e1.symm
      subst eA
      rw [hyl.out] at hrd
      obtain ⟨ad, Ai, m, ci, zs, rfl, hz, hm, hc, hri⟩ := RdL.at' hrd hlt
      have hml : zs.length ≤ 1048576 := by
        rw [← hz.out, hlen.out k]; exact hin'.out k hlt
      have hval : vals.getD k undef = .slice Ai m ci := by
        have hgk : k < vals.length := by rw [hnl'.out]; exact hlt
        have hcv : wr.cell? (ad.add k) = some (vals.getD k undef) := by
          rcases hdis.out.outer.2 with ⟨e3, _⟩ | ⟨g, cap, cur, e3, _⟩
          · injection e3 with e4; cases e4
          · injection e3 with e4 e5 e6
            injection e4 with e4
            subst e4
            refine World.ownsRow.cells hdis.out.outer (g := g) rfl k _ ?_
            simp [hgk]
        rw [hc] at hcv
        injection hcv with hcv
        exact hcv.symm
      have hoi : Lv wr lo hi (.slice Ai m ci) zs := by
        have h1 := hdis.out.inner k hky
        rw [hval, hz.out] at h1
        refine ⟨⟨h1, fun g hg => hdis.out.tops k hky g (by rw [hval]; exact hg)⟩, by rw [honly.out.size]; exact hsz⟩
      have hoi' := hid hoi
      have hval' := hid hval
      have hmz : m = zs.length := hm.out.symm
      have hmb : m ≤ 1048576 := by omega
      have hkb : (k : Int) * 1048576 ≤ 1099511627776 := by omega
      clear e hrd hri hll hoi hval hmz
      go_wp2_with fail
      refine (markIntS_lv r wr hoi'.out (by omega) hr0 (by omega)).mono ?_
      rintro e w2 ⟨rfl, hlv, hg, hs⟩
      have hdn := hid (hdis.out.mark (us := marks r m) hky (by rw [hval'.out]; exact hlv.1.1) (by rw [hval'.out]; exact hg))
      have hon := hid (honly.out.then_ hg hs (fun g hgb => ⟨(hoi'.out.1.1.lt g hgb).1, hoi'.out.1.2 g hgb⟩))
      clear hlv hg hs
      go_wp2
      go_roundw
      case rel => exact ⟨k + 1, r + m, yss.set k (marks r m), by omega, by go_num, rfl, by omega, by omega, hid (by rw [List.length_set]; exact hyl.out), hid (fun j => by
          by_cases e : j = k
          · subst e
            have : (yss.set j (marks r m)).getD j [] = marks r m := by simp [hky]
            rw [this, marks_len, ← hlen.out j, hz.out, hm.out]
          · have e' : k ≠ j := fun h => e h.symm
            have : (yss.set k (marks r m)).getD j [] = yss.getD j [] := by simp [e']
            rw [this]; exact hlen.out j), hdn, hon⟩
      case measure => simp [intOf]; omega
    · go_wp2
      go_ret
      exact ⟨r, rfl, hr0, honly.out⟩

end Go.Proofs.Ythnkilacknoklaa
