/-
  Slices of ints that a call owns, told apart by where their blocks lie; contracts of the exact laws' helpers toIntS, markIntS, heldIntS. No condition but lengths below 2^40.
-/
import Derived.Test.YtjmhedolidkdhaaSpecB
namespace Go.Proofs.Ytjmhedolidkdhaa
open Go.RowKit

/-- v is a slice that is owned and holds zs; its block (if any) lies from lo on and below hi. -/
def Ow (w : World) (lo hi : Nat) (v : Value) (zs : List Int) : Prop := OwI w lo v zs ∧ ∀ g, v.ownBlock = some g → g < hi

section
variable {w w' : World} {lo hi lo' hi' B : Nat} {v u : Value} {zs : List Int}

theorem Ow.of (h : OwI w lo v zs) : Ow w lo w.heap.size v zs := ⟨h, fun g hg => (h.lt g hg).2⟩

theorem Ow.le (h : Ow w lo hi v zs) (hh : hi ≤ hi') : Ow w lo hi' v zs := ⟨h.1, fun g hg => Nat.lt_of_lt_of_le (h.2 g hg) hh⟩

theorem own_of_block (h : OwI w lo v zs) (hb : ∀ g, v.ownBlock = some g → w'.heap[g]? = w.heap[g]?) : OwI w' lo v zs := by
  refine ⟨h.1, ?_⟩
  rcases h.2 with hn | ⟨g, cap, cur, e, hl, hg, hr⟩
  · exact .inl hn
  · exact .inr ⟨g, cap, cur, e, hl, (hb g (by rw [e]; rfl)).trans hg, hr⟩

theorem Ow.below (h : Ow w lo hi v zs) (hb : Below B w w') (hh : hi ≤ B) : Ow w' lo hi v zs :=
  ⟨own_of_block h.1 fun g hg => hb.block g (Nat.lt_of_lt_of_le (h.2 g hg) hh), h.2⟩

theorem Ow.quiet (h : Ow w lo hi v zs) (hq : Qt w w') : Ow w' lo hi v zs := ⟨hq.own h.1, h.2⟩
/-- behind a write to another row -/
theorem Ow.other (h : Ow w lo hi v zs) (hg : w.grownBy w' u.ownBlock) (hu : ∀ g, u.ownBlock = some g → g < lo ∨ hi ≤ g) : Ow w' lo hi v zs :=
  ⟨own_of_block h.1 fun g hgv => hg.block g (h.1.lt g hgv).2 (fun e => by
    have h1 := hu g e.symm
    have h2 := (h.1.lt g hgv).1
    have h3 := h.2 g hgv
    omega), h.2⟩

theorem Ow.rd (h : Ow w lo hi v zs) (hs : hi ≤ B) : ∃ A c, v = .slice A zs.length c ∧ RdI w B A zs.length zs := by
  rcases h.1.2 with ⟨rfl, h0⟩ | ⟨g, cap, cur, rfl, hrest⟩
  · have hz : zs = [] := List.eq_nil_of_length_eq_zero h0
    subst hz
    exact ⟨none, 0, rfl, Reads.none_⟩
  · refine ⟨_, cap, rfl, ?_⟩
    have hr := Reads.of_own (c := cap) h.1
    refine ⟨hr.1, fun hn => ?_⟩
    obtain ⟨ad, e, _, hc⟩ := hr.2 hn
    refine ⟨ad, e, ?_, hc⟩
    have := h.2 g rfl
    injection e with e
    subst e
    show g < B
    omega

theorem Ow.belowOf (h : Ow w lo hi v zs) (hg : w.grownBy w' v.ownBlock) (hB : B ≤ lo) (hs : B ≤ w.heap.size) : Below B w w' :=
  ⟨hg.os, hg.tape, hg.output, hg.size, fun k hk => hg.block k (by omega) (fun e => by have := (h.1.lt k e.symm).1; omega)⟩
end

set_option maxHeartbeats 400000 in
theorem toIntS_any {n c : Nat} {A : Option Addr} {zs : List Int} (w : World) (hr : RdI w w.heap.size A n zs) (hn : n < 1099511627776) :
    Calls Try.prog 9 #[.slice A n c] w fun e w' => ∃ v, e = .returned v ∧ Ow w' w.heap.size w'.heap.size v zs ∧ Below w.heap.size w w' := by
  obtain ⟨i0, hi, hz0, hz1, hz2⟩ := info_parts info_int
  have hl' := hid hr.len
  have hr' := hid hr
  clear hr
  go_enter Try.func9, Try.ntmps9
  go_wp2_with (refine wpList_make_full (P := Try.prog) _ rfl _ _ 22 rfl w.heap.size 3 i0 (.int .i64 0) 1 Try.underlying22 hi hz0 hz1 .i64 .i64 _ _ n rfl rfl rfl rfl (by rw [hz2]; omega) (by unfold maxLen; omega) (Nat.le_refl _) ?_; intro w1 hown hgr)
  have hb1 := hid ((Below.refl w.heap.size w).grown hgr (Nat.le_refl _) (fun k h => by cases h))
  have ho1 : w1.ownsRow w.heap.size 3 1 (.slice (some ⟨w.heap.size, 0, none⟩) n n) n (ints (List.replicate n 0)) := by
    have e : (madeCells (Value.int IntKind.i64 0).cells (n * 1)).toList = ints (List.replicate n 0) := by
      rw [Nat.mul_one, show (Value.int IntKind.i64 0).cells = #[Value.int IntKind.i64 0] from rfl, toList_madeCells_one]; simp [ints]
    rw [← e]; exact hown
  have ho1' := hid ho1
  clear ho1 hown hgr hi hz0 hz1 hz2
  go_loopw [4] (fun i wr => ∃ (k : Nat) (ys : List Int), k ≤ n ∧ i = .int .i64 k ∧ Hid (ys.length = n) ∧ Hid (wr.ownsRow w.heap.size 3 1 (.slice (some ⟨w.heap.size, 0, none⟩) n n) n (ints ys)) ∧ Hid (∀ j, j < k → ys.getD j 0 = zs.getD j 0) ∧ Below w.heap.size w wr) (fun i _ => n - (intOf i).toNat)
  case atStart => exact ⟨0, _, by omega, rfl, List.length_replicate, ho1', hid (fun j h => by omega), hb1.out⟩
  case round =>
    obtain ⟨k, ys, hk, rfl, hyl, hown, hall, hbel⟩ := hrel
    by_cases hlt : k < n
    · obtain ⟨ad, z, rfl, hz, hc⟩ := RdI.at' (hr'.out.below hbel) hlt
      have hcell : wr.cell? ⟨w.heap.size, k, none⟩ = some (.int .i64 (ys.getD k 0)) := by
        rw [hown.out.cellAt k (by omega)]
        have : k < ys.length := by rw [hyl.out]; exact hlt
        simp [this]
      have hfr : wr.frozen? ⟨w.heap.size, k, none⟩ = false := hown.out.frozenAt k
      have hst := hid (hown.out.stored k (.int .i64 z))
      go_wp2
      go_roundw
      case rel => exact ⟨k + 1, ys.set k z, by omega, by go_num, hid (by rw [List.length_set]; exact hyl.out), hid (by rw [ints, List.map_set]; exact hst.out.1), hid (fun j hj => by
          by_cases e : j = k
          · subst e
            have : j < ys.length := by rw [hyl.out]; exact hlt
            rw [hz.out]; simp [this]
          · have h1 := hall.out j (by omega)
            rw [← h1]
            have e' : k ≠ j := fun h => e h.symm
            simp [e']), hbel.setCell (Nat.le_refl _) _⟩
      case measure => simp [intOf]; omega
    · have e : ys = zs := by
        apply List.ext_getElem (by rw [hyl.out, hl'.out])
        intro i h1 h2
        have := hall.out i (by rw [hyl.out] at h1; omega)
        simpa [h1, h2] using this
      have hfin : Hid (Ow wr w.heap.size wr.heap.size (.slice (some ⟨w.heap.size, 0, none⟩) n n) zs) := hid (Ow.of (by
        have h := hown.out
        rw [e, ← hl'.out] at h
        rw [← hl'.out]; exact h))
      clear e
      go_wp2
      go_ret
      exact ⟨_, rfl, hfin.out, hbel⟩

theorem grown_set {w wr w' : World} {row : Option Nat} (h : w.grownBy wr row) (k : wr.grownBy w' row) : w.grownBy w' row :=
  ⟨k.os.trans h.os, k.tape.trans h.tape, k.output.trans h.output, Nat.le_trans h.size k.size, fun i hi hne => (k.block i (Nat.lt_of_lt_of_le hi h.size) hne).trans (h.block i hi hne)⟩

/-- the numbers k, k + 1, .. -/
def marks (k : Int) (n : Nat) : List Int := (List.range n).map fun (i : Nat) => k + (i : Int)

theorem marks_len (k : Int) (n : Nat) : (marks k n).length = n := by simp [marks]

theorem marks_get {k : Int} {n i : Nat} (h : i < n) : (marks k n).getD i 0 = k + (i : Int) := by simp [marks, h]

set_option maxHeartbeats 400000 in
theorem markIntS_any {lo hi : Nat} {v : Value} {zs : List Int} (k0 : Int) (w : World) (ho : Ow w lo hi v zs) (hn : zs.length < 1099511627776) (hk0 : 0 ≤ k0) (hk1 : k0 < 1099511627776000) :
    Calls Try.prog 13 #[v, .int .i64 k0] w fun e w' => e = .returned (.int .i64 (k0 + (zs.length : Int))) ∧ Ow w' lo hi v (marks k0 zs.length) ∧ w.grownBy w' v.ownBlock ∧ w'.heap.size = w.heap.size := by
  rcases ho.1.2 with ⟨rfl, h0⟩ | ⟨g, cap, cur, rfl, hb, hgh, hrest⟩
  · have hz : zs = [] := List.eq_nil_of_length_eq_zero h0
    subst hz
    go_enter Try.func13, Try.ntmps13
    go_wp2
    go_rounds 1
    go_ret
    exact ⟨ret_int (by simp), ho, World.grownBy.refl _ _, rfl⟩
  · have hlt0 := ho.2 g rfl
    have ho' := hid ho
    clear ho hrest hgh
    obtain ⟨n, hln⟩ : ∃ n, zs.length = n := ⟨_, rfl⟩
    rw [hln] at hn ⊢
    have hln' := hid hln
    have ho1 : Hid (w.ownsRow lo 3 1 (.slice (some ⟨g, 0, none⟩) n cap) n (ints zs)) := hid (by
      have := ho'.out.1
      rw [OwI, hln] at this; exact this)
    clear hln
    go_enter Try.func13, Try.ntmps13
    go_wp2
    go_loopw [1, 5] (fun x i wr => ∃ (k : Nat) (ys : List Int), k ≤ n ∧ i = .int .i64 k ∧ x = .int .i64 (k0 + (k : Int)) ∧ Hid (ys.length = n) ∧ Hid (wr.ownsRow lo 3 1 (.slice (some ⟨g, 0, none⟩) n cap) n (ints ys)) ∧ Hid (∀ j, j < k → ys.getD j 0 = k0 + (j : Int)) ∧ w.grownBy wr (some g) ∧ Hid (wr.heap.size = w.heap.size)) (fun _ i _ => n - (intOf i).toNat)
    case atStart => exact ⟨0, zs, by omega, rfl, by simp, hln', ho1, hid (fun j h => by omega), World.grownBy.refl _ _, rfl⟩
    case round =>
      obtain ⟨k, ys, hk, rfl, rfl, hyl, hown, hall, hgr, hsz⟩ := hrel
      by_cases hlt : k < n
      · have hcell : wr.cell? ⟨g, k, none⟩ = some (.int .i64 (ys.getD k 0)) := by
          rw [hown.out.cellAt k (by omega)]
          have : k < ys.length := by rw [hyl.out]; exact hlt
          simp [this]
        have hfr : wr.frozen? ⟨g, k, none⟩ = false := hown.out.frozenAt k
        have hst := hid (hown.out.stored k (.int .i64 (k0 + (k : Int))))
        go_wp2
        go_roundw
        case rel => exact ⟨k + 1, ys.set k (k0 + (k : Int)), by omega, by go_num, by go_num, hid (by rw [List.length_set]; exact hyl.out), hid (by rw [ints, List.map_set]; exact hst.out.1), hid (fun j hj => by
            by_cases e : j = k
            · subst e
              have : j < ys.length := by rw [hyl.out]; exact hlt
              simp [this]
            · have h1 := hall.out j (by omega)
              rw [← h1]
              have e' : k ≠ j := fun h => e h.symm
              simp [e']), grown_set hgr hst.out.2, hid (by simpa using hsz.out)⟩
        case measure => simp [intOf]; omega
      · have hkn : k = n := by omega
        have e : ys = marks k0 n := by
          apply List.ext_getElem (by rw [hyl.out, marks_len])
          intro i h1 h2
          have h1' : i < n := by rw [hyl.out] at h1; exact h1
          have := hall.out i (by omega)
          rw [← marks_get (k := k0) h1'] at this
          simpa [h1, h2] using this
        have hfin : Hid (Ow wr lo hi (.slice (some ⟨g, 0, none⟩) n cap) (marks k0 n)) := hid ⟨by
          have h := hown.out
          rw [e] at h
          rw [OwI, marks_len]; exact h, fun g' hg' => by injection hg' with hg'; subst hg'; exact hlt0⟩
        have hkn' := hid hkn
        clear e hkn
        go_wp2
        go_ret
        exact ⟨ret_int (by rw [hkn'.out]), hfin.out, hgr, hsz.out⟩

set_option maxHeartbeats 400000 in
theorem heldIntS_any {B c : Nat} {A : Option Addr} {n : Nat} (k0 : Int) (w : World) (hr : RdI w B A n (marks k0 n)) (hn : n < 1099511627776) (hk0 : 0 ≤ k0) (hk1 : k0 < 1099511627776000) :
    Calls Try.prog 25 #[.slice A n c, .int .i64 k0] w fun e w' => e = .returned (.int .i64 (k0 + (n : Int))) ∧ w = w' := by
  have hr' := hid hr
  clear hr
  go_enter Try.func25, Try.ntmps25
  go_wp2
  go_loop [1, 5] (fun x i => ∃ k : Nat, k ≤ n ∧ i = .int .i64 k ∧ x = .int .i64 (k0 + (k : Int))) (fun _ i => n - (intOf i).toNat)
  case atStart => exact ⟨0, by omega, rfl, by simp⟩
  case round =>
    obtain ⟨k, hk, rfl, rfl⟩ := hrel
    by_cases hlt : k < n
    · obtain ⟨ad, z, rfl, hz, hc⟩ := RdI.at' hr'.out hlt
      have hzz : z = k0 + (k : Int) := by rw [← hz.out]; exact marks_get hlt
      have hne : (z != k0 + (k : Int)) = false := by rw [hzz]; simp
      have hzz' := hid hzz
      clear hzz
      go_wp2
      go_round
      case rel => exact ⟨k + 1, by omega, by go_num, by go_num⟩
      case measure => simp [intOf]; omega
    · have hkn := hid (show k = n by omega)
      go_wp2
      go_ret
      exact ⟨ret_int (by rw [hkn.out]), rfl⟩

/-! ### live values: owned, and their blocks lie already -/
theorem Ow.rdAt {w : World} {lo hi B n c : Nat} {A : Option Addr} {zs : List Int} (h : Ow w lo hi (.slice A n c) zs) (hs : hi ≤ B) : RdI w B A n zs := by
  obtain ⟨A', c', e, hr⟩ := h.rd hs
  injection e with e1 e2 e3
  subst e1; subst e2
  exact hr

def Lv (w : World) (lo hi : Nat) (v : Value) (zs : List Int) : Prop := Ow w lo hi v zs ∧ hi ≤ w.heap.size
section
variable {w w' : World} {lo hi lo2 hi2 n c B : Nat} {v u : Value} {zs us : List Int} {A : Option Addr}

theorem Lv.of (h : Ow w lo w.heap.size v zs) : Lv w lo w.heap.size v zs := ⟨h, Nat.le_refl _⟩

theorem Lv.ofI (h : OwI w lo v zs) : Lv w lo w.heap.size v zs := ⟨Ow.of h, Nat.le_refl _⟩

theorem Lv.step (h : Lv w lo hi v zs) (hb : Below w.heap.size w w') : Lv w' lo hi v zs := ⟨h.1.below hb h.2, Nat.le_trans h.2 hb.size⟩

theorem Lv.quiet (h : Lv w lo hi v zs) (hq : Qt w w') : Lv w' lo hi v zs := ⟨h.1.quiet hq, by rw [hq.size]; exact h.2⟩

theorem Lv.other (h : Lv w lo hi v zs) (hu : Lv w lo2 hi2 u us) (hg : w.grownBy w' u.ownBlock) (hd : hi ≤ lo2 ∨ hi2 ≤ lo) : Lv w' lo hi v zs :=
  ⟨h.1.other hg fun g hgu => by
    have h1 := (hu.1.1.lt g hgu).1
    have h2 := hu.1.2 g hgu
    omega, Nat.le_trans h.2 hg.size⟩

theorem Lv.rd (h : Lv w lo hi v zs) : ∃ A c, v = .slice A zs.length c := by
  obtain ⟨A, c, e, _⟩ := h.1.rd (Nat.le_refl hi)
  exact ⟨A, c, e⟩

theorem Lv.at_ (h : Lv w lo hi (.slice A n c) zs) : RdI w w.heap.size A n zs := h.1.rdAt h.2

theorem Lv.base (h : Lv w lo hi v zs) (hg : w.grownBy w' v.ownBlock) (hB : B ≤ lo) (hs : B ≤ w.heap.size) : Below B w w' := h.1.belowOf hg hB hs
end

theorem markIntS_lv {lo hi n c : Nat} {A : Option Addr} {zs : List Int} (k0 : Int) (w : World) (h : Lv w lo hi (.slice A n c) zs) (hn : n < 1099511627776) (hk0 : 0 ≤ k0) (hk1 : k0 < 1099511627776000) :
    Calls Try.prog 13 #[.slice A n c, .int .i64 k0] w fun e w' => e = .returned (.int .i64 (k0 + (n : Int))) ∧ Lv w' lo hi (.slice A n c) (marks k0 n) ∧ w.grownBy w' (Value.slice A n c).ownBlock ∧ w'.heap.size = w.heap.size := by
  have hl : zs.length = n := h.at_.len
  refine (markIntS_any k0 w h.1 (by omega) hk0 hk1).mono fun e w' ⟨h1, h2, h3, h4⟩ => ?_
  rw [hl] at h1 h2
  exact ⟨h1, ⟨h2, by rw [h4]; exact h.2⟩, h3, h4⟩

end Go.Proofs.Ytjmhedolidkdhaa
