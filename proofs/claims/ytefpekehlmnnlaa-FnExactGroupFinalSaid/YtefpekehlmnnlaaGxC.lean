/-
  The exact laws' helpers over groups: toGroup, markGroup, heldGroup; a group that is live. No condition but lengths below 2^40.
-/
import Derived.Test.YtefpekehlmnnlaaGxB
import Derived.Test.YtefpekehlmnnlaaGmQ
namespace Go.Proofs.Ytefpekehlmnnlaa
open Go.RowKit
set_option linter.unusedVariables false
set_option linter.unusedSimpArgs false

theorem toEntryS_ex {n c : Nat} {A : Option Addr} {zs : List En} (w : World) (h : RdX w A n zs) (hn : n < 1099511627776) :
    Calls Try.prog 45 #[.slice A n c] w fun e w' => ∃ g, e = .returned (.slice (some ⟨g, 0, none⟩) n n) ∧ w.heap.size ≤ g ∧ g < w'.heap.size ∧ OwE w' w.heap.size (.slice (some ⟨g, 0, none⟩) n n) zs ∧ Below w.heap.size w w' :=
  (toEntryS_any w h hn).mono fun e w' ⟨h1, h2, h3⟩ => ⟨_, h1, Nat.le_refl _, (h2.lt _ rfl).2, h2, h3⟩

set_option maxHeartbeats 2000000 in
theorem toGroup_any {n1 c1 n2 c2 : Nat} {A1 A2 : Option Addr} {P D : List En} (i k : Int) (w : World) (h1 : RdX w A1 n1 P) (h2 : RdX w A2 n2 D) (hn1 : n1 < 1099511627776) (hn2 : n2 < 1099511627776) :
    Calls Try.prog 17 #[gpV i k (.slice A1 n1 c1) (.slice A2 n2 c2)] w fun e w' => ∃ B1 B2, e = .returned (gpV i k (.slice B1 n1 n1) (.slice B2 n2 n2)) ∧ OwG w' w.heap.size B1 n1 n1 B2 n2 n2 P D ∧ Below w.heap.size w w' := by
  have B := hid (below3 w (.cells #[.int .i64 i, .int .i64 k, .slice A1 n1 c1, .slice A2 n2 c2] 32) (.cells #[.int .i64 0, .int .i64 0, .slice none 0 0, .slice none 0 0] 24) (.cells #[.int .i64 i, .int .i64 k, .slice none 0 0, .slice none 0 0] 24))
  have C0 := hid (((Cs.new w 32 #[.int .i64 i, .int .i64 k, .slice A1 n1 c1, .slice A2 n2 c2]).alloc (.cells #[.int .i64 0, .int .i64 0, .slice none 0 0, .slice none 0 0] 24)).alloc (.cells #[.int .i64 i, .int .i64 k, .slice none 0 0, .slice none 0 0] 24))
  have C1 := hid ((Cs.new (w.alloc (.cells #[.int .i64 i, .int .i64 k, .slice A1 n1 c1, .slice A2 n2 c2] 32)) 24 #[.int .i64 0, .int .i64 0, .slice none 0 0, .slice none 0 0]).alloc (.cells #[.int .i64 i, .int .i64 k, .slice none 0 0, .slice none 0 0] 24))
  have C2 := hid (Cs.new ((w.alloc (.cells #[.int .i64 i, .int .i64 k, .slice A1 n1 c1, .slice A2 n2 c2] 32)).alloc (.cells #[.int .i64 0, .int .i64 0, .slice none 0 0, .slice none 0 0] 24)) 24 #[.int .i64 i, .int .i64 k, .slice none 0 0, .slice none 0 0])
  have X1 := hid (h1.below B.out)
  have h2' := hid h2
  obtain ⟨w0, hw0⟩ : ∃ W, ((w.alloc (.cells #[.int .i64 i, .int .i64 k, .slice A1 n1 c1, .slice A2 n2 c2] 32)).alloc (.cells #[.int .i64 0, .int .i64 0, .slice none 0 0, .slice none 0 0] 24)).alloc (.cells #[.int .i64 i, .int .i64 k, .slice none 0 0, .slice none 0 0] 24) = W := ⟨_, rfl⟩
  have hz0 : w.heap.size + 1 + 1 + 1 = w0.heap.size := by rw [← hw0]; simp
  simp only [World.size_alloc] at C0 C1 C2
  rw [hw0] at B C0 C1 C2 X1
  have hlP := hid h1.1
  have hlD := hid h2.1
  have hw0' := hid hw0
  clear hw0 h1 h2
  go_enter Try.func17, Try.ntmps17
  go_upto_region 4 with (fail)
  rw [hw0'.out]
  obtain ⟨a0, a1, a2, a3⟩ := C0.out.four
  go_wp2_with fail
  refine (toEntryS_ex _ X1.out hn1).mono ?_
  rintro e w1 ⟨g1, rfl, hg1, hg1', o1, hb1⟩
  have hz1 := hb1.size
  have D0 := hid (C0.out.step hb1)
  have D1 := hid (C1.out.step hb1)
  have D2 := hid (C2.out.step hb1)
  have O1 := hid (o1.more (show w.heap.size ≤ w0.heap.size by omega))
  have B1 := hid (B.out.trans (hb1.mono (by omega)))
  obtain ⟨x0, x1, x2, x3⟩ := D2.out.four
  obtain ⟨y0, y1, y2, y3⟩ := D2.out.free4
  clear hb1 C0 C1 C2 B X1 a0 a1 a2 a3 o1
  go_upto_region 5 with (fail)
  obtain ⟨W1, hW1⟩ : ∃ W, w1.setCell ⟨w.heap.size + 1 + 1, 2, none⟩ (.slice (some ⟨g1, 0, none⟩) n1 n1) = W := ⟨_, rfl⟩
  have hzW : W1.heap.size = w1.heap.size := by rw [← hW1]; simp [World.setCell]
  have hbW : Below w.heap.size w W1 := by rw [← hW1]; exact B1.out.setCell (by simp; omega) _
  have E0 : Cs W1 w.heap.size 32 #[.int .i64 i, .int .i64 k, .slice A1 n1 c1, .slice A2 n2 c2] := by rw [← hW1]; exact D0.out.far (by simp; omega) _
  have E1 : Cs W1 (w.heap.size + 1) 24 #[.int .i64 0, .int .i64 0, .slice none 0 0, .slice none 0 0] := by rw [← hW1]; exact D1.out.far (by simp) _
  have E2 : Cs W1 (w.heap.size + 1 + 1) 24 #[.int .i64 i, .int .i64 k, .slice (some ⟨g1, 0, none⟩) n1 n1, .slice none 0 0] := by rw [← hW1]; exact D2.out.set 2 _
  have P1 : OwE W1 w.heap.size (.slice (some ⟨g1, 0, none⟩) n1 n1) P := by rw [← hW1]; exact O1.out.setFar (fun h => by injection h with h; simp at h; omega) _
  have Z2 : RdX W1 A2 n2 D := h2'.out.below hbW
  rw [hW1]
  replace hbW := hid hbW
  replace P1 := hid P1
  replace Z2 := hid Z2
  obtain ⟨a0, a1, a2, a3⟩ := E0.four
  replace E0 := hid E0
  replace E1 := hid E1
  replace E2 := hid E2
  clear hW1 D0 D1 D2 O1 B1 x0 x1 x2 x3 y0 y1 y2 y3
  go_wp2_with fail
  refine (toEntryS_ex _ Z2.out hn2).mono ?_
  rintro e w2 ⟨g2, rfl, hg2, hg2', o2, hb2⟩
  have hz2 := hb2.size
  have F1 := hid (E1.out.step hb2)
  have F2 := hid (E2.out.step hb2)
  have Q1 := hid (P1.out.below hb2)
  have Q2 := hid (o2.more (show w.heap.size ≤ W1.heap.size by omega))
  have B2 := hid (hbW.out.trans (hb2.mono (by omega)))
  obtain ⟨x0, x1, x2, x3⟩ := F2.out.four
  obtain ⟨y0, y1, y2, y3⟩ := F2.out.free4
  clear hb2 E0 E1 E2 a0 a1 a2 a3 o2 P1 Z2 hbW
  go_upto_region 6 with (fail)
  obtain ⟨W2, hW2⟩ : ∃ W, w2.setCell ⟨w.heap.size + 1 + 1, 3, none⟩ (.slice (some ⟨g2, 0, none⟩) n2 n2) = W := ⟨_, rfl⟩
  have hbX : Below w.heap.size w W2 := by rw [← hW2]; exact B2.out.setCell (by simp; omega) _
  have G1 : Cs W2 (w.heap.size + 1) 24 #[.int .i64 0, .int .i64 0, .slice none 0 0, .slice none 0 0] := by rw [← hW2]; exact F1.out.far (by simp) _
  have G2 : Cs W2 (w.heap.size + 1 + 1) 24 #[.int .i64 i, .int .i64 k, .slice (some ⟨g1, 0, none⟩) n1 n1, .slice (some ⟨g2, 0, none⟩) n2 n2] := by rw [← hW2]; exact F2.out.set 3 _
  have R1 : OwE W2 w.heap.size (.slice (some ⟨g1, 0, none⟩) n1 n1) P := by rw [← hW2]; exact Q1.out.setFar (fun h => by injection h with h; simp at h; omega) _
  have R2 : OwE W2 w.heap.size (.slice (some ⟨g2, 0, none⟩) n2 n2) D := by rw [← hW2]; exact Q2.out.setFar (fun h => by injection h with h; simp at h; omega) _
  rw [hW2]
  obtain ⟨x0, x1, x2, x3⟩ := G2.four
  obtain ⟨z0, z1, z2, z3⟩ := G1.four
  obtain ⟨y0, y1, y2, y3⟩ := G1.free4
  have HF := hid (show OwG ((((W2.setCell ⟨w.heap.size + 1, 0, none⟩ (.int .i64 i)).setCell ⟨w.heap.size + 1, 1, none⟩ (.int .i64 k)).setCell ⟨w.heap.size + 1, 2, none⟩ (.slice (some ⟨g1, 0, none⟩) n1 n1)).setCell ⟨w.heap.size + 1, 3, none⟩ (.slice (some ⟨g2, 0, none⟩) n2 n2)) w.heap.size (some ⟨g1, 0, none⟩) n1 n1 (some ⟨g2, 0, none⟩) n2 n2 P D from by
    have f1 : ∀ j, (Value.slice (some ⟨g1, 0, none⟩) n1 n1).ownBlock ≠ some (⟨w.heap.size + 1, j, none⟩ : Addr).block := fun j h => by injection h with h; simp at h; omega
    have f2 : ∀ j, (Value.slice (some ⟨g2, 0, none⟩) n2 n2).ownBlock ≠ some (⟨w.heap.size + 1, j, none⟩ : Addr).block := fun j h => by injection h with h; simp at h; omega
    exact ⟨(((R1.setFar (f1 0) _).setFar (f1 1) _).setFar (f1 2) _).setFar (f1 3) _, (((R2.setFar (f2 0) _).setFar (f2 1) _).setFar (f2 2) _).setFar (f2 3) _, hlP.out, hlD.out, fun b h1 h2 => by
      injection h1 with h1
      injection h2 with h2
      simp only at h1 h2
      omega⟩)
  have HB := hid (show Below w.heap.size w ((((W2.setCell ⟨w.heap.size + 1, 0, none⟩ (.int .i64 i)).setCell ⟨w.heap.size + 1, 1, none⟩ (.int .i64 k)).setCell ⟨w.heap.size + 1, 2, none⟩ (.slice (some ⟨g1, 0, none⟩) n1 n1)).setCell ⟨w.heap.size + 1, 3, none⟩ (.slice (some ⟨g2, 0, none⟩) n2 n2)) from (((hbX.setCell (by simp) _).setCell (by simp) _).setCell (by simp) _).setCell (by simp) _)
  have Y := hid ((((G1.set 0 (.int .i64 i)).set 1 (.int .i64 k)).set 2 (.slice (some ⟨g1, 0, none⟩) n1 n1)).set 3 (.slice (some ⟨g2, 0, none⟩) n2 n2) : Cs _ _ _ #[.int .i64 i, .int .i64 k, .slice (some ⟨g1, 0, none⟩) n1 n1, .slice (some ⟨g2, 0, none⟩) n2 n2]).four
  clear hW2 F1 F2 Q1 Q2 B2 R1 R2 hbX G1 G2
  go_wp2
  exact bodyPost_ret (v := gpV i k (.slice (some ⟨g1, 0, none⟩) n1 n1) (.slice (some ⟨g2, 0, none⟩) n2 n2)) (by simp [results, Try.results17, go_sem, Y.out.1, Y.out.2.1, Y.out.2.2.1, Y.out.2.2.2]) rfl ⟨_, _, rfl, HF.out, HB.out⟩
end Go.Proofs.Ytefpekehlmnnlaa
