/-
  The draws of traces: l92Order, l92Trace, DrawTraceFollows. No condition (l6Open reads at most 2000 bytes).
-/
import Derived.Test.YtdhafappclcijaaDrawA
import Derived.Test.YtdhafappclcijaaMgA
import Derived.Test.YtdhafappclcijaaTrH
namespace Go.Proofs.Ytdhafappclcijaa
open Go.RowKit
set_option linter.unusedVariables false

theorem Ow.pick {w w' : World} {lo hi g : Nat} {v : Value} {zs : List Int} (h : Ow w lo hi v zs) (hg : w.grownBy w' (some g)) (hl : g < lo) : Ow w' lo hi v zs := ⟨h.1.pick hg hl, h.2⟩

theorem l1Has_asT {B n c : Nat} {A : Option Addr} {zs : List Int} {x : Int} {b : Bool} (h : hasB zs x = b) (w : World) (hr : RdI w B A n zs) (hn : n < 1099511627776) : Calls Try.prog 47 #[.slice A n c, .int .i64 x] w fun e w' => e = .returned (.bool b) ∧ w = w' := by
  subst h; exact l1Has_any x w hr hn

def OrderPost (B g P : Nat) (w : World) (e : Ending) (w' : World) : Prop :=
  ∃ (v : Value) (zs : List Int), e = .returned v ∧ OwI w' w.heap.size v zs ∧ zs.length ≤ 10 ∧ Rdr w' B g (P + 21) ∧ w.grownBy w' (some g)

set_option maxHeartbeats 2000000 in
theorem l92Order_any {B g P : Nat} (w : World) (h : Rdr w B g P) (hP : P ≤ 900000) :
    Calls Try.prog 42 #[.pointer (some ⟨g, 0, none⟩)] w (OrderPost B g P w) := by
  have hg := h.lt
  have h' := hid h
  clear h
  go_enter Try.func42, Try.ntmps42
  go_wp2
  go_loopw [3, 4] (fun o i wr => ∃ (k : Nat) (zs : List Int), k ≤ 10 ∧ i = .int .i64 k ∧ OwI wr w.heap.size o zs ∧ zs.length ≤ k ∧ Rdr wr B g (P + 2 * k) ∧ w.grownBy wr (some g)) (fun _ i _ => 10 - (intOf i).toNat)
  case atStart =>
    exact ⟨0, [], by omega, rfl, OwI.empty_lit w (Nat.le_refl _), by simp, h'.out.below ((Below.refl w.heap.size w).alloc (Nat.le_refl _) _) hg, World.grownBy_alloc w _ _⟩
  case round =>
    obtain ⟨k, zs, hk, rfl, hown, hzl, hrd, hgr⟩ := hrel
    go_wp2_with fail
    refine (pick_any 11 wr hrd (by omega) (by omega) (by omega)).mono ?_
    rintro e w1 ⟨x, rfl, hx0, hx1, hrd1, hgr1, hs1⟩
    have hown1 := hid (hown.pick hgr1 hg)
    have hgr2 := hid (grown_set hgr hgr1)
    clear hs1 hgr1 hown hgr hrd
    by_cases hlt : (k : Int) < x
    · go_wp2_with fail
      refine (pick_any 12 w1 hrd1 (by omega) (by omega) (by omega)).mono ?_
      rintro e w2 ⟨m, rfl, hm0, hm1, hrd2, hgr3, hs3⟩
      have hown2 := hid (hown1.out.pick hgr3 hg)
      have hgr4 := grown_set hgr2.out hgr3
      have hsz := hgr4.size
      have hgr4' := hid hgr4
      clear hs3 hgr3 hown1 hgr2 hrd1 hgr4
      obtain ⟨A, c, rfl, hri⟩ := hown2.out.form
      obtain ⟨b, hb⟩ : ∃ b, hasB zs m = b := ⟨_, rfl⟩
      have hrd2' := hid hrd2
      clear hrd2
      go_wp2_with fail
      refine (l1Has_asT hb w2 hri (by omega)).mono ?_
      rintro e w3 ⟨rfl, rfl⟩
      clear hri
      have ho := hown2.out
      have hn := hid hzl
      generalize hL : zs.length = L at ho hzl ⊢
      cases b with
      | false =>
        go_wp2_with (at_builtin; refine wpList_app1 rfl (.tmp 19) (.tmp 21) rfl w.heap.size m _ _ rfl rfl ho hsz (by omega) ?_; intro v' w' hown' hbel')
        go_roundw
        case rel => exact ⟨k + 1, _, by omega, by go_num, hown', by simp; omega, (hrd2'.out.below hbel' hg).le (by omega), grown_below hgr4'.out hbel'⟩
        case measure => simp [intOf]; omega
      | true =>
        go_wp2
        go_roundw
        case rel => exact ⟨k + 1, zs, by omega, by go_num, ho, by omega, hrd2'.out.le (by omega), hgr4'.out⟩
        case measure => simp [intOf]; omega
    · obtain ⟨A, c, rfl, _⟩ := hown1.out.form
      go_wp2
      go_ret
      exact ⟨_, zs, rfl, hown1.out, by omega, hrd1.le (by omega), hgr2.out⟩

def TrPost (B g P n : Nat) (w : World) (e : Ending) (w' : World) : Prop :=
  ∃ (v : Value) (zs : List Int), e = .returned v ∧ OwI w' w.heap.size v zs ∧ zs.length ≤ n ∧ Rdr w' B g (P + n) ∧ w.grownBy w' (some g)

set_option maxHeartbeats 2000000 in
theorem l92Trace_any {B g P lo n c : Nat} {A : Option Addr} {zs : List Int} (w : World) (h : Rdr w B g P) (hP : P ≤ 900000) (ho : Ow w lo w.heap.size (.slice A n c) zs) (hlo : g < lo) (hn : n ≤ 1000) :
    Calls Try.prog 43 #[.pointer (some ⟨g, 0, none⟩), .slice A n c] w (TrPost B g P n w) := by
  have hg := h.lt
  have h' := hid h
  have ho' := hid ho
  clear h ho
  go_enter Try.func43, Try.ntmps43
  go_wp2
  go_loopw [5, 6] (fun o i wr => ∃ (k : Nat) (ys : List Int), k ≤ n ∧ i = .int .i64 k ∧ OwI wr w.heap.size o ys ∧ ys.length ≤ k ∧ Hid (Ow wr lo w.heap.size (.slice A n c) zs) ∧ Rdr wr B g (P + k) ∧ w.grownBy wr (some g)) (fun _ i _ => n - (intOf i).toNat)
  case atStart =>
    exact ⟨0, [], by omega, rfl, OwI.empty_lit w (Nat.le_refl _), by simp, hid (ho'.out.below ((Below.refl w.heap.size w).alloc (Nat.le_refl _) _) (Nat.le_refl _)), h'.out.below ((Below.refl w.heap.size w).alloc (Nat.le_refl _) _) hg, World.grownBy_alloc w _ _⟩
  case round =>
    clear ho' h'
    obtain ⟨k, ys, hk, rfl, hown, hzl, hord, hrd, hgr⟩ := hrel
    by_cases hlt : k < n
    · go_wp2_with fail
      refine (pick_any 5 wr hrd (by omega) (by omega) (by omega)).mono ?_
      rintro e w1 ⟨x, rfl, hx0, hx1, hrd1, hgr1, hs1⟩
      have hown1 := hid (hown.pick hgr1 hg)
      have hord1 := hid (hord.out.pick hgr1 hlo)
      have hgr2 := grown_set hgr hgr1
      have hsz := hgr2.size
      have hgr2' := hid hgr2
      have hrd1' := hid hrd1
      clear hs1 hgr1 hown hgr hrd hrd1 hord hgr2
      by_cases hx : 1 < x
      · obtain ⟨ad, z, rfl, hz, hc⟩ := RdI.at' (hord1.out.rdAt (B := w1.heap.size) hsz) hlt
        have hz' := hz
        have i1 : (k : Int) < (n : Int) := by omega
        go_wp2_with (at_builtin; refine wpList_app1 rfl (.tmp 17) (.tmp 22) rfl w.heap.size z _ _ rfl rfl hown1.out hsz (by omega) ?_; intro v' w' hown' hbel')
        go_roundw
        case rel => exact ⟨k + 1, _, by omega, by go_num, hown', by simp; omega, hid (hord1.out.below hbel' (Nat.le_refl _)), hrd1'.out.below hbel' hg, grown_below hgr2'.out hbel'⟩
        case measure => simp [intOf]; omega
      · go_wp2
        go_roundw
        case rel => exact ⟨k + 1, ys, by omega, by go_num, hown1.out, by omega, hord1, hrd1'.out, hgr2'.out⟩
        case measure => simp [intOf]; omega
    · have e : k = n := by omega
      subst e
      obtain ⟨A2, c2, rfl, _⟩ := hown.form
      have hown' := hid hown
      clear hown
      go_wp2
      go_ret
      exact ⟨_, ys, rfl, hown'.out, by omega, hrd, hgr⟩
end Go.Proofs.Ytdhafappclcijaa
