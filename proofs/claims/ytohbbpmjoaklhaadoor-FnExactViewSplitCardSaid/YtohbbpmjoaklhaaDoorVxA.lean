/-
  The exact laws' helpers over views: szView, toView, eqView, markView, heldView. No condition but lengths below 2^40.
-/
import Derived.Test.YtohbbpmjoaklhaaDoorVwD
import Derived.Laws.MakeOwn
namespace Go.Proofs.YtohbbpmjoaklhaaDoor
open Go.RowKit
set_option linter.unusedVariables false
set_option linter.unusedSimpArgs false

theorem sameB_selfV (zs : List Int) : sameB zs zs = true := by simp [sameB]

set_option maxHeartbeats 1000000 in
theorem szIntSV_y {n c : Nat} {A : Option Addr} {l : Int} (w : World) (h : (n : Int) ≤ l) (h0 : 0 ≤ l) (h1 : l ≤ 1048576) :
    Calls Tryd.prog 25 #[.slice A n c, .int .i64 l] w fun e w' => e = .returned (.int .i64 (l - (n : Int))) ∧ w = w' := by
  go_enter Tryd.func25, Tryd.ntmps25
  go_wp2
  go_ret
  exact ⟨rfl, rfl⟩

set_option maxHeartbeats 1000000 in
theorem szIntSV_n {n c : Nat} {A : Option Addr} {l : Int} (w : World) (hn : n ≤ 9223372036854775807) (h : ¬ (n : Int) ≤ l) (h0 : 0 ≤ l) (h1 : l ≤ 1048576) :
    Calls Tryd.prog 25 #[.slice A n c, .int .i64 l] w fun e w' => e = .returned (.int .i64 (-1)) ∧ w = w' := by
  go_enter Tryd.func25, Tryd.ntmps25
  go_wp2
  go_ret
  exact ⟨rfl, rfl⟩

set_option maxHeartbeats 1000000 in
theorem szView_y {m c : Nat} {A : Option Addr} {l : Int} (n : Int) (w : World) (h : (m : Int) ≤ l) (h0 : 0 ≤ l) (h1 : l ≤ 1048576) :
    Calls Tryd.prog 8 #[vwV n (.slice A m c), .int .i64 l] w fun e w' => e = .returned (.int .i64 (l - (m : Int))) ∧ Below w.heap.size w w' := by
  have hB := hid (below1 w (.cells #[.int .i64 n, .slice A m c] 24))
  have g0 : ¬ (l - (m : Int) < 0) := by omega
  go_enter Tryd.func8, Tryd.ntmps8
  go_wp2_with (go_at_call 25; (with_reducible refine (szIntSV_y _ h h0 h1).mono ?_); rintro e w2 ⟨rfl, rfl⟩)
  go_ret
  exact ⟨rfl, hB.out⟩

set_option maxHeartbeats 1000000 in
theorem szView_n {m c : Nat} {A : Option Addr} {l : Int} (n : Int) (w : World) (hn : m ≤ 9223372036854775807) (h : ¬ (m : Int) ≤ l) (h0 : 0 ≤ l) (h1 : l ≤ 1048576) :
    Calls Tryd.prog 8 #[vwV n (.slice A m c), .int .i64 l] w fun e w' => e = .returned (.int .i64 (-1)) ∧ Below w.heap.size w w' := by
  have hB := hid (below1 w (.cells #[.int .i64 n, .slice A m c] 24))
  go_enter Tryd.func8, Tryd.ntmps8
  go_wp2_with (go_at_call 25; (with_reducible refine (szIntSV_n _ hn h h0 h1).mono ?_); rintro e w2 ⟨rfl, rfl⟩)
  go_ret
  exact ⟨rfl, hB.out⟩

set_option maxHeartbeats 4000000 in
theorem toView_any {m c : Nat} {A : Option Addr} {zs : List Int} (n : Int) (w : World) (hr : RdI w w.heap.size A m zs) (hm : m < 1099511627776) :
    Calls Tryd.prog 10 #[vwV n (.slice A m c)] w fun e w' => ∃ A' c', e = .returned (vwV n (.slice A' zs.length c')) ∧ OwI w' w.heap.size (.slice A' zs.length c') zs ∧ Below w.heap.size w w' := by
  obtain ⟨W, hW⟩ : ∃ W, (((w.alloc (.cells #[.int .i64 n, .slice A m c] 24)).alloc (.cells vz 26)).alloc (.cells #[.int .i64 n, .slice none 0 0] 26)) = W := ⟨_, rfl⟩
  have B := hid (show Below w.heap.size w W by rw [← hW]; exact below3 w _ _ _)
  have C0 := hid (show Cs W w.heap.size 24 #[.int .i64 n, .slice A m c] by rw [← hW]; exact ((Cs.new w _ _).alloc _).alloc _)
  have C1 := hid (show Cs W (w.heap.size + 1) 26 vz by rw [← hW]; exact (Cs.new' _ _ _ (by simp)).alloc _)
  have C2 := hid (show Cs W (w.heap.size + 1 + 1) 26 #[.int .i64 n, .slice none 0 0] by rw [← hW]; exact Cs.new' _ _ _ (by simp))
  have hz : w.heap.size + 1 + 1 < W.heap.size := C2.out.lt
  have X := hid ((Reads.below hr B.out).more B.out.size)
  replace hW := hid hW
  clear hr
  go_enter Tryd.func10, Tryd.ntmps10
  go_upto_region 3 with (fail)
  rw [hW.out]
  obtain ⟨d0, d1, -, -⟩ := C0.out.two
  go_wp2_with fail
  refine (toIntS_any _ X.out hm).mono ?_
  rintro e w1 ⟨v1, rfl, o1, hb1⟩
  obtain ⟨A1, c1, rfl, -⟩ := o1.rd (Nat.le_refl _)
  have D1 := hid (C1.out.step hb1)
  have D2 := hid (C2.out.step hb1)
  have O1 := hid o1.1
  have B1 := hid (B.out.trans (hb1.mono (by omega)))
  have hz1 : W.heap.size ≤ w1.heap.size := hb1.size
  clear hb1 C0 C1 C2 B X d0 d1 o1
  obtain ⟨x0, x1, x2, x3⟩ := D2.out.two
  go_upto_region 4 with (fail)
  obtain ⟨W2, hW2⟩ : ∃ W, w1.setCell ⟨w.heap.size + 1 + 1, 1, none⟩ (.slice A1 zs.length c1) = W := ⟨_, rfl⟩
  rw [hW2]
  have F1 := hid (show Cs W2 (w.heap.size + 1) 26 vz by rw [← hW2]; exact D1.out.far (by simp) _)
  have F2 := hid (show Cs W2 (w.heap.size + 1 + 1) 26 #[.int .i64 n, .slice A1 zs.length c1] by rw [← hW2]; exact D2.out.set 1 _)
  have Q1 := hid (show OwI W2 W.heap.size (.slice A1 zs.length c1) zs by rw [← hW2]; exact own_of_block O1.out fun g hg => heap_setCell_other w1 ⟨w.heap.size + 1 + 1, 1, none⟩ g _ (fun e => by have := (O1.out.lt g hg).1; simp only at e; omega))
  have B3 := hid (show Below w.heap.size w W2 by rw [← hW2]; exact B1.out.setCell (by simp; omega) _)
  clear hW2 D1 D2 O1 B1 x0 x1 x2 x3
  obtain ⟨x0, x1, -, -⟩ := F2.out.two
  obtain ⟨z0, z1, z2, z3⟩ := F1.out.two
  obtain ⟨f1, f2⟩ := F1.out.fillV B3.out (by omega) (.int .i64 n) (.slice A1 zs.length c1)
  replace f2 := hid f2
  have hO := hid ((Q1.out.fillV F1.out (.int .i64 n) (.slice A1 zs.length c1)).more (show w.heap.size ≤ W.heap.size by omega))
  obtain ⟨r0, r1, -, -⟩ := f1.two
  clear Q1 B3 F1 F2 f1
  go_wp2
  refine bodyPost_ret (v := vwV n (.slice A1 zs.length c1)) (by simp [results, Tryd.results10, go_sem, r0, r1]) rfl ?_
  exact ⟨A1, c1, rfl, hO.out, f2.out⟩

set_option maxHeartbeats 4000000 in
theorem eqView_same {m c c' : Nat} {A A' : Option Addr} {zs : List Int} (n : Int) (w : World) (hx : RdI w w.heap.size A m zs) (hy : RdI w w.heap.size A' m zs) (hm : m < 1099511627776) :
    Calls Tryd.prog 12 #[vwV n (.slice A m c), vwV n (.slice A' m c')] w fun e w' => e = .returned (.bool true) ∧ Below w.heap.size w w' := by
  obtain ⟨W, hW⟩ : ∃ W, (w.alloc (.cells #[.int .i64 n, .slice A m c] 26)).alloc (.cells #[.int .i64 n, .slice A' m c'] 26) = W := ⟨_, rfl⟩
  have B := hid (show Below w.heap.size w W by rw [← hW]; exact below2 w _ _)
  have C0 := hid (show Cs W w.heap.size 26 #[.int .i64 n, .slice A m c] by rw [← hW]; exact (Cs.new w _ _).alloc _)
  have C1 := hid (show Cs W (w.heap.size + 1) 26 #[.int .i64 n, .slice A' m c'] by rw [← hW]; exact Cs.new' _ _ _ (by simp))
  have X := hid (Reads.below hx B.out)
  have Y := hid (Reads.below hy B.out)
  have hne : (n != n) = false := by simp
  replace hW := hid hW
  clear hx hy
  obtain ⟨d0, d1, -, -⟩ := C0.out.two
  obtain ⟨e0, e1, -, -⟩ := C1.out.two
  go_enter Tryd.func12, Tryd.ntmps12
  go_upto_region 1 with (fail)
  rw [hW.out]
  go_wp2_with (go_at_call 24; (refine (eqIntS_any _ X.out Y.out hm hm).mono ?_); rw [sameB_selfV]; rintro e w2 ⟨rfl, hq⟩; have hq' := hid (hq.below W.heap.size); clear hq)
  go_ret
  exact ⟨rfl, B.out.trans (hq'.out.mono B.out.size)⟩

set_option maxHeartbeats 2000000 in
theorem markView_any {lo hi m c : Nat} {A : Option Addr} {zs : List Int} (n k0 : Int) (w : World) (h : Lv w lo hi (.slice A m c) zs) (hm : m < 1099511627776) (hk0 : 0 ≤ k0) (hk1 : k0 < 1099511627776000) :
    Calls Tryd.prog 13 #[vwV n (.slice A m c), .int .i64 k0] w fun e w' => e = .returned (.int .i64 (k0 + (m : Int))) ∧ Lv w' lo hi (.slice A m c) (marks k0 m) ∧ Kp (fun b => lo ≤ b ∧ b < hi) w w' := by
  have hB := hid (below1 w (.cells #[.int .i64 n, .slice A m c] 26))
  have hL := hid (h.step hB.out)
  clear h
  go_enter Tryd.func13, Tryd.ntmps13
  go_wp2_with (go_at_call 33; (refine (markIntS_lv k0 _ hL.out hm hk0 hk1).mono ?_); rintro e w2 ⟨rfl, hL2, hG, -⟩; have hL2' := hid hL2; have hK := hid ((Kp.of_below (S := fun b => lo ≤ b ∧ b < hi) hB.out).then (((Kp.refl (fun b => (Value.slice A m c).ownBlock = some b) _).grown hG (fun j e => .inr e)).mono (fun b hb => ⟨(hL.out.1.1.lt b hb).1, hL.out.1.2 b hb⟩))); clear hL2 hG)
  go_ret
  exact ⟨rfl, hL2'.out, hK.out⟩

set_option maxHeartbeats 2000000 in
theorem heldView_any {m c : Nat} {A : Option Addr} (n k0 : Int) (w : World) (h : RdI w w.heap.size A m (marks k0 m)) (hm : m < 1099511627776) (hk0 : 0 ≤ k0) (hk1 : k0 < 1099511627776000) :
    Calls Tryd.prog 14 #[vwV n (.slice A m c), .int .i64 k0] w fun e w' => e = .returned (.int .i64 (k0 + (m : Int))) ∧ Below w.heap.size w w' := by
  have hB := hid (below1 w (.cells #[.int .i64 n, .slice A m c] 26))
  have hR : Hid (RdI (w.alloc (.cells #[.int .i64 n, .slice A m c] 26)) w.heap.size A m (marks k0 m)) := hid (Reads.below h hB.out)
  have g0 : ¬ (k0 + (m : Int) < 0) := by omega
  clear h
  go_enter Tryd.func14, Tryd.ntmps14
  go_wp2_with (go_at_call 34; (refine (heldIntS_any k0 _ hR.out hm hk0 hk1).mono ?_); rintro e w2 ⟨rfl, rfl⟩)
  go_ret
  exact ⟨rfl, hB.out⟩
end Go.Proofs.YtohbbpmjoaklhaaDoor
